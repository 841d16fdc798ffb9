package wrap_test

import (
	"math"
	"testing"

	"tenon/api"
	"tenon/object"
	"tenon/sample"
	"tenon/wrap"
)

// P11.1, P11.6: of each of the sixteen sets that an object has, and each that is meant, what both have is shown, and no more; each method comes to the object, once, with what it was handed.
func TestShowSixteenTimesSixteen(t *testing.T) {
	for had := range 16 {
		for meant := range 16 {
			s := numbered(7)
			x := mustShow(t, sample.Able(had, s), meant)
			mustHave(t, x, had&meant)
			mustLog(t, s)
			for _, m := range methodsOf(had & meant) {
				*s = *numbered(7)
				mustAnswer(t, x, m, wanted(m, 7))
				mustLog(t, s, m.logged)
			}
		}
	}
}

// P11.1: a number that is no set is refused, and nobody is asked.
func TestShowWrong(t *testing.T) {
	for set := range 16 {
		s := numbered(1)
		for _, has := range []int{-1, 16, 17, -16, 31, 1 << 20, math.MinInt, math.MaxInt} {
			x, e := wrap.Show(sample.Able(set, s), has)
			mustNot(t, has, x, e, api.ErrArg)
		}
		mustLog(t, s)
	}
}

// P11.1: what was hidden does not come back: a Show of a Show has what all three have.
func TestShowWithinShow(t *testing.T) {
	for had := range 16 {
		for one := range 16 {
			for two := range 16 {
				x := mustShow(t, mustShow(t, sample.Able(had, numbered(1)), one), two)
				if n, e := object.Abilities(x); n != had&one&two || e != api.OK {
					t.Error(had, one, two, n, e)
				}
			}
		}
	}
}

// almost has one method of each ability of two, and all of none.
type almost struct{ sample.Blunt }

func (almost) ID() api.Ref            { return 3 }
func (almost) Get(string) (any, bool) { return nil, true }
func (almost) Class() string          { return "almost" }
func (almost) Give(string) api.Errno  { return api.OK }
func (almost) Load() bool             { return true }

// P11.8: an ability of which an object lacks a method is not had, by whatever wrapper; nor is the method.
func TestAlmost(t *testing.T) {
	for _, x := range ofEachKind(t, almost{}) {
		mustHave(t, x, 0)
	}
	mustHave(t, mustAdd(t, almost{}, almost{}), 0)
	mustHave(t, mustAdd(t, almost{}, sample.Able(api.IsLazy, numbered(1))), api.IsLazy)
}

// P11.1: a Show lets a panic through, whatever it is.
func TestShowPanics(t *testing.T) {
	for _, thrown := range sample.Thrown() {
		for set := range 16 {
			for _, m := range methodsOf(set) {
				s := numbered(2)
				s.Meanwhile = throwing(m.name, thrown)
				mustPanic(t, mustShow(t, sample.Able(all, s), set), m, thrown)
				mustLog(t, s, m.logged)
			}
		}
	}
}

// Example 1.
func TestExampleShow(t *testing.T) {
	o := sample.Able(api.IsVersioned+api.IsOwned, numbered(1))
	mustHave(t, mustShow(t, o, 4), 4)
	mustHave(t, mustShow(t, o, 2), 0)
	x, e := wrap.Show(o, 16)
	mustNot(t, 16, x, e, api.ErrArg)
	if y, ok := wrap.Reach(mustShow(t, o, 0), 1); y != o || !ok {
		t.Error(y, ok)
	}
}
