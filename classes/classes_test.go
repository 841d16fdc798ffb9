package classes_test

import (
	"strings"
	"testing"

	"tenon/api"
	"tenon/classes"
	"tenon/sample"
)

func TestRule(t *testing.T) {
	for _, x := range sample.WrongClasses() {
		if e := classes.Rule(x.C); e != x.Why {
			t.Errorf("%s: %d, want %d", x.Name, e, x.Why)
		}
	}
	clutter := api.FieldOf{Name: "a", Type: sample.AnyValue(), Default: api.Term{Kind: 99}} // without Has the default plays no part
	good := []api.Class{
		sample.Class("a", 1), sample.Class("a", api.MaxVersion, sample.SomeFields(0, api.MaxItems)...), sample.Abstract(sample.Child("a", 1, "a", api.MaxVersion, clutter, sample.Was(sample.Some("b"), "b"))),
		sample.Class("a", 1, sample.With(sample.FieldOf("a", sample.NoValue()), int64(1))), // whether a default is of its type is not asked here
	}
	for _, name := range sample.GoodNames() {
		good = append(good, sample.Child(name, 1, name, 1, sample.Was(sample.Some(name), name)))
	}
	for i, x := range sample.Types() {
		good = append(good, sample.Class("c"+strings.Repeat("i", i%30), 1, sample.FieldOf("a", sample.Cluttered(x))))
	}
	for _, v := range sample.Rich() {
		good = append(good, sample.Class("a", 1, sample.With(sample.FieldOf("a", sample.AnyValue()), v)))
	}
	for i, c := range good {
		if e := classes.Rule(c); e != api.OK {
			t.Errorf("%d, %s: %d", i, c.Name, e)
		}
	}
}
