package convert_test

import (
	"fmt"
	"slices"
	"strings"
	"testing"

	"tenon/api"
	"tenon/convert"
	"tenon/sample"
	"tenon/text"
	"tenon/value"
)

// What the tests of this package are made of.

// The abilities as the chapter numbers them.
const (
	reversible = 1
	partial    = 2
	costed     = 4
)

// script is what a converter tells and does. What is not said: class p, the cost 1; it takes all, and Convert and Back answer what they are handed with their way written into the field way.
type script struct {
	class         string
	from, to      int
	cost          int
	log           *[]string           // of each call, if it is there
	meanwhile     func(method string) // in each call, if it is there
	takes         func(api.Dict) bool
	convert, back func(api.Dict) (api.Dict, api.Errno)
}

func (s *script) called(method string) {
	if s.log != nil {
		*s.log = append(*s.log, fmt.Sprintf("%s %d-%d", method, s.from, s.to))
	}
	if s.meanwhile != nil {
		s.meanwhile(method)
	}
}

// The methods of a converter and of its abilities, each ability by itself.
type (
	basic  struct{ *script }
	goBack struct{ *script }
	choose struct{ *script }
	charge struct{ *script }
)

func (c basic) From() (string, int) {
	c.called("From")
	return c.class, c.from
}

func (c basic) To() int {
	c.called("To")
	return c.to
}

func (c basic) Convert(d api.Dict) (api.Dict, api.Errno) {
	c.called("Convert")
	if c.convert != nil {
		return c.convert(d)
	}
	return written(d, fmt.Sprintf("%d-%d", c.from, c.to)), api.OK
}

func (c goBack) Back(d api.Dict) (api.Dict, api.Errno) {
	c.called("Back")
	if c.back != nil {
		return c.back(d)
	}
	return written(d, fmt.Sprintf("%d-%d", c.to, c.from)), api.OK
}

func (c choose) Takes(d api.Dict) bool {
	c.called("Takes")
	return c.takes == nil || c.takes(d)
}

func (c charge) Cost() int {
	c.called("Cost")
	return c.cost
}

// written is fields with one more word in the field way, which comes behind all others.
func written(d api.Dict, word string) api.Dict {
	if n := len(d) - 1; n >= 0 && d[n].Name == "way" {
		d[n].Value = d[n].Value.(string) + " " + word
		return d
	}
	return append(d, sample.Field("way", word))
}

// with is the converter of a script that has those abilities and no others.
func with(abilities int, s script) api.Converter {
	if s.class == "" {
		s.class = "p"
	}
	if s.cost == 0 {
		s.cost = 1
	}
	return exactly(abilities, s)
}

// exactly is likewise of a script in which all is said.
func exactly(abilities int, s script) api.Converter {
	b, r, p, c := basic{&s}, goBack{&s}, choose{&s}, charge{&s}
	switch abilities {
	case reversible:
		return struct {
			basic
			goBack
		}{b, r}
	case partial:
		return struct {
			basic
			choose
		}{b, p}
	case reversible + partial:
		return struct {
			basic
			goBack
			choose
		}{b, r, p}
	case costed:
		return struct {
			basic
			charge
		}{b, c}
	case reversible + costed:
		return struct {
			basic
			goBack
			charge
		}{b, r, c}
	case partial + costed:
		return struct {
			basic
			choose
			charge
		}{b, p, c}
	case reversible + partial + costed:
		return struct {
			basic
			goBack
			choose
			charge
		}{b, r, p, c}
	}
	return b
}

// plain is a converter of class p, without abilities.
func plain(from, to int) api.Converter { return with(0, script{from: from, to: to}) }

// both is one that can be gone back.
func both(from, to int) api.Converter { return with(reversible, script{from: from, to: to}) }

// dear is one with a cost.
func dear(from, to, cost int) api.Converter {
	return with(costed, script{from: from, to: to, cost: cost})
}

// dearBoth is one with a cost that can be gone back.
func dearBoth(from, to, cost int) api.Converter {
	return with(reversible+costed, script{from: from, to: to, cost: cost})
}

// doing is one whose Convert is that function.
func doing(from, to int, does func(api.Dict) (api.Dict, api.Errno)) api.Converter {
	return with(0, script{from: from, to: to, convert: does})
}

// answering is a function that answers just that.
func answering(d api.Dict, e api.Errno) func(api.Dict) (api.Dict, api.Errno) {
	return func(api.Dict) (api.Dict, api.Errno) { return d, e }
}

// made is a Registry of those converters, all of which must be taken up.
func made(t *testing.T, l ...api.Converter) *convert.Registry {
	t.Helper()
	r := new(convert.Registry)
	for i, c := range l {
		mustAdd(t, r, c, i+1)
	}
	return r
}

func mustAdd(t *testing.T, r *convert.Registry, c api.Converter, number int) {
	t.Helper()
	if n, e := r.Add(c); n != number || e != api.OK {
		t.Fatalf("Add: %d, %d, want the number %d", n, e, number)
	}
}

// mustRefuse is of a converter that is not taken up.
func mustRefuse(t *testing.T, r *convert.Registry, c api.Converter, want api.Errno) {
	t.Helper()
	if n, e := r.Add(c); n != 0 || e != want {
		t.Errorf("Add: %d, %d, want %d", n, e, want)
	}
}

// mustChain holds the chain of class p against what is wanted.
func mustChain(t *testing.T, r *convert.Registry, from, to int, want ...int) {
	t.Helper()
	if l, e := r.Chain("p", from, to); !slices.Equal(l, want) || e != api.OK {
		t.Errorf("Chain(%d, %d): %d, %d, want %d", from, to, l, e, want)
	}
}

// mustLack is of versions of class p between which there is no chain.
func mustLack(t *testing.T, r *convert.Registry, from, to int) {
	t.Helper()
	if l, e := r.Chain("p", from, to); len(l) != 0 || e != api.ErrChain {
		t.Errorf("Chain(%d, %d): %d, %d", from, to, l, e)
	}
	if x, e := r.Convert(sample.Record("p", from), to); x != nil || e != api.ErrChain {
		t.Errorf("Convert(%d, %d): %s, %d", from, to, told(x), e)
	}
}

// mustReach holds the versions of class p that are come to against what is wanted.
func mustReach(t *testing.T, r *convert.Registry, from int, want ...int) {
	t.Helper()
	if l, e := r.Versions("p", from); !slices.Equal(l, want) || e != api.OK {
		t.Errorf("Versions(%d): %d, %d, want %d", from, l, e, want)
	}
}

// mustConvert holds what comes of a record, and what Ask tells of it, against the text of what is wanted.
func mustConvert(t *testing.T, r *convert.Registry, x *api.Record, to int, want string) {
	t.Helper()
	y, e := r.Convert(x, to)
	if told(y) != want || e != api.OK {
		t.Errorf("Convert(%s, %d): %s, %d, want %s", told(x), to, told(y), e, want)
		return
	}
	for _, f := range y.Fields {
		if v, ok, e := r.Ask(x, to, f.Name); !value.Same(v, f.Value) || !ok || e != api.OK {
			t.Errorf("Ask(%s, %d, %s): %s, %v, %d", told(x), to, f.Name, told(v), ok, e)
		}
	}
	if v, ok, e := r.Ask(x, to, "nowhere"); v != nil || ok || e != api.OK {
		t.Errorf("Ask(%s, %d, nowhere): %s, %v, %d", told(x), to, told(v), ok, e)
	}
}

// mustFail is of a record that is not converted, whatever it is asked for.
func mustFail(t *testing.T, r *convert.Registry, x *api.Record, to int, want api.Errno) {
	t.Helper()
	if y, e := r.Convert(x, to); y != nil || e != want {
		t.Errorf("Convert(%s, %d): %s, %d, want %d", told(x), to, told(y), e, want)
	}
	for _, name := range []string{"a", "way", "", "A"} {
		if v, ok, e := r.Ask(x, to, name); v != nil || ok || e != want {
			t.Errorf("Ask(%s, %d, %q): %s, %v, %d, want %d", told(x), to, name, told(v), ok, e, want)
		}
	}
}

// mustLog holds what was called against what is wanted, and begins the log anew.
func mustLog(t *testing.T, log *[]string, want ...string) {
	t.Helper()
	if !slices.Equal(*log, want) {
		t.Errorf("called: %s\nwant: %s", strings.Join(*log, ", "), strings.Join(want, ", "))
	}
	*log = nil
}

// rec is the record of a text, which must be one.
func rec(s string) *api.Record {
	v, at, e := text.Parse(s)
	if e != api.OK {
		panic(fmt.Sprint(s, at, e))
	}
	return v.(*api.Record)
}

// told is a value as it is read.
func told(v any) string {
	s, e := text.Print(v)
	if e != api.OK {
		return fmt.Sprint("error ", int(e))
	}
	if len(s) > 200 {
		s = s[:100] + " .. " + s[len(s)-100:]
	}
	return s
}

// all is what a Registry tells of class p, of its first versions and converters, as text.
func all(r *convert.Registry) string {
	var b strings.Builder
	for n := -1; n <= 20; n++ {
		has, e := r.Has(n)
		fmt.Fprintln(&b, "has", n, has, int(e))
	}
	for from := 1; from <= 8; from++ {
		l, e := r.Versions("p", from)
		fmt.Fprintln(&b, "versions", from, l, int(e))
		for to := 1; to <= 8; to++ {
			l, e := r.Chain("p", from, to)
			fmt.Fprintln(&b, "chain", from, to, l, int(e))
		}
	}
	return b.String()
}
