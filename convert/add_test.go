package convert_test

import (
	"math"
	"testing"

	"tenon/api"
	"tenon/convert"
	"tenon/sample"
)

// strict's methods use it, so that they panic if it is nil; easy's do not.
type (
	strict struct{ from int }
	easy   struct{}
)

func (s *strict) From() (string, int)                      { return "p", s.from }
func (s *strict) To() int                                  { return s.from + 1 }
func (s *strict) Convert(d api.Dict) (api.Dict, api.Errno) { return d, api.OK }
func (s *strict) Cost() int                                { return 1 }

func (e *easy) From() (string, int)                      { return "p", 1 }
func (e *easy) To() int                                  { return 2 }
func (e *easy) Convert(d api.Dict) (api.Dict, api.Errno) { return d, api.OK }

// P9.1: a Registry that no call was made on has no converters, whichever call is the first.
func TestZeroRegistry(t *testing.T) {
	for _, n := range []int{math.MinInt, -1, 0, 1, 2, api.MaxItems, math.MaxInt} {
		var r convert.Registry
		if has, e := r.Has(n); has != 0 || e != api.ErrArg {
			t.Error(n, has, e)
		}
	}
	for _, n := range []int{1, 2, api.MaxVersion} {
		mustChain(t, new(convert.Registry), n, n)
		mustReach(t, new(convert.Registry), n, n)
		mustConvert(t, new(convert.Registry), sample.Record("p", n, sample.Field("a", true)), n, told(sample.Record("p", n, sample.Field("a", true))))
	}
	mustLack(t, new(convert.Registry), 1, 2)
	mustFail(t, new(convert.Registry), sample.Record("p", 2), 1, api.ErrChain)
	mustAdd(t, new(convert.Registry), plain(1, 2), 1)
}

// P9.1, example 2: nothing is ErrNil; a nil pointer is asked, and may panic.
func TestAddNil(t *testing.T) {
	var r convert.Registry
	var s *strict
	var e *easy
	mustRefuse(t, &r, nil, api.ErrNil)
	mustRefuse(t, &r, s, api.ErrPanic)
	mustRefuse(t, &r, struct{ api.Converter }{}, api.ErrPanic)
	if all(&r) != all(new(convert.Registry)) {
		t.Error("something was taken up")
	}
	mustAdd(t, &r, e, 1)
	mustAdd(t, &r, &strict{2}, 2)
	mustRefuse(t, &r, nil, api.ErrNil)
	mustChain(t, &r, 1, 3, 1, 2)
	mustConvert(t, &r, rec("p/1{a: 1}"), 3, "p/3{a: 1}")
}

// near is much like what has abilities: its methods' names are theirs, but not all is as it must be.
type near struct{ basic }

func (n near) Back(d api.Dict) api.Dict  { return d }
func (n near) Takes(d api.Dict) int      { return 0 }
func (n near) Cost() int64               { return 7 }
func (s *strict) Takes(d []any) bool     { return false }
func (s *strict) Back(api.Dict) api.Dict { return nil }

// byPointer has its ability only where a pointer to it is held.
type byPointer struct{ basic }

func (b *byPointer) Back(d api.Dict) (api.Dict, api.Errno) { return d, api.OK }
func (b *byPointer) Takes(d api.Dict) bool                 { return true }
func (b byPointer) Cost() int                              { return 2 }

// P9.1: Has tells just the abilities that there are, of each of the eight sets, whoever was taken up ahead.
func TestAbilities(t *testing.T) {
	var r convert.Registry
	for set := range 8 {
		mustAdd(t, &r, with(set, script{from: set + 1, to: set + 2}), set+1)
	}
	for set := range 8 {
		if n, e := r.Has(set + 1); n != set || e != api.OK {
			t.Errorf("%d: %d, %d", set, n, e)
		}
	}
	for _, n := range []int{math.MinInt, -1, 0, 9, math.MaxInt} {
		if has, e := r.Has(n); has != 0 || e != api.ErrArg {
			t.Error(n, has, e)
		}
	}
	b := basic{&script{class: "q", from: 1, to: 2}}
	other := basic{&script{class: "q", from: 2, to: 3}}
	for i, x := range []struct {
		c    api.Converter
		want int
	}{{near{b}, 0}, {byPointer{other}, costed}, {&byPointer{basic{&script{class: "q", from: 3, to: 4}}}, reversible + partial + costed}, {&strict{20}, costed}, {struct{ api.Converter }{both(30, 31)}, 0}} {
		mustAdd(t, &r, x.c, i+9)
		if n, e := r.Has(i + 9); n != x.want || e != api.OK {
			t.Errorf("%T: %d, %d, want %d", x.c, n, e, x.want)
		}
	}
	mustLack(t, &r, 31, 30) // what an interface holds that is held itself does not count
}

// P9.1: From, To and Cost are called once each, in this order, and nothing else, whether it is taken up or not.
func TestAddCalls(t *testing.T) {
	var log []string
	for set := range 8 {
		want := []string{"From 1-2", "To 1-2", "Cost 1-2"}
		if set&costed == 0 {
			want = want[:2]
		}
		for _, class := range []string{"p", "", "No name"} {
			for _, cost := range []int{1, 0} {
				var r convert.Registry
				c := exactly(set, script{class: class, from: 1, to: 2, cost: cost, log: &log})
				n, e := r.Add(c)
				mustLog(t, &log, want...)
				if again, f := r.Add(c); e == api.OK && (n != 1 || again != 0 || f != api.ErrThere) {
					t.Error(set, n, again, f)
				}
				mustLog(t, &log, want...)
				r.Has(1)
				r.Chain("p", 1, 2)
				r.Chain("p", 2, 1)
				r.Versions("p", 1)
				mustLog(t, &log)
			}
		}
		var r convert.Registry
		mustRefuse(t, &r, exactly(set, script{class: "p", from: 1, to: 1, cost: 1, log: &log}), api.ErrArg)
		log = nil
	}
}

// P9.1: what can't be taken up, and of several reasons the first one.
func TestAddWrong(t *testing.T) {
	long := "a2345678901234567890123456789012"
	for _, x := range []struct {
		class          string
		from, to, cost int
		want           api.Errno
	}{
		{"p", 1, 2, 1, api.OK}, {"p", 2, 1, 1, api.OK}, {"p", 1, 1000, 1000, api.OK}, {"p", 1000, 1, 1, api.OK}, {"p", 999, 1000, 500, api.OK}, {long, 1, 2, 1, api.OK},
		{long + "3", 1, 2, 1, api.ErrName}, {"", 1, 2, 1, api.ErrName}, {"P", 0, 0, 0, api.ErrName}, {"", 1001, 1, 0, api.ErrName},
		{"p", 0, 2, 1, api.ErrArg}, {"p", 1, 0, 1, api.ErrArg}, {"p", 1001, 2, 1, api.ErrArg}, {"p", 1, 1001, 1, api.ErrArg}, {"p", -1, 2, 1, api.ErrArg}, {"p", 1, -1, 1, api.ErrArg},
		{"p", math.MinInt, 1, 1, api.ErrArg}, {"p", 1, math.MaxInt, 1, api.ErrArg}, {"p", 0, 0, 1, api.ErrArg}, {"p", 1001, 1001, 1, api.ErrArg},
		{"p", 1, 1, 1, api.ErrArg}, {"p", 1000, 1000, 1, api.ErrArg},
		{"p", 1, 2, 0, api.ErrArg}, {"p", 1, 2, -1, api.ErrArg}, {"p", 1, 2, 1001, api.ErrArg}, {"p", 1, 2, math.MinInt, api.ErrArg}, {"p", 1, 2, math.MaxInt, api.ErrArg},
	} {
		for set := costed; set < 8; set++ {
			var r convert.Registry
			n, e := r.Add(exactly(set, script{class: x.class, from: x.from, to: x.to, cost: x.cost}))
			if e != x.want || n != 1 && e == api.OK || n != 0 && e != api.OK {
				t.Errorf("%v: %d, %d", x, n, e)
			}
			if _, f := r.Has(1); (f == api.OK) != (e == api.OK) {
				t.Errorf("%v: told %d, but Has: %d", x, e, f)
			}
		}
	}
	for _, name := range sample.BadNames() {
		mustRefuse(t, new(convert.Registry), exactly(0, script{class: name, from: 1, to: 2}), api.ErrName)
	}
	for _, name := range sample.GoodNames() {
		mustAdd(t, new(convert.Registry), exactly(0, script{class: name, from: 1, to: 2}), 1)
	}
}

// P9.1: ErrThere, if a way is there already: forward, back, of either of the two; a class's ways are its own.
func TestThere(t *testing.T) {
	for _, x := range []struct {
		name         string
		first, other api.Converter
		want         api.Errno
	}{
		{"the same", plain(1, 2), plain(1, 2), api.ErrThere}, {"the same for less", dear(1, 2, 9), plain(1, 2), api.ErrThere}, {"the same that goes back, too", plain(1, 2), both(1, 2), api.ErrThere},
		{"the other way", plain(1, 2), plain(2, 1), api.OK}, {"the way back that is there", both(1, 2), plain(2, 1), api.ErrThere}, {"a way back that is there forward", plain(1, 2), both(2, 1), api.ErrThere}, {"both twice", both(1, 2), both(1, 2), api.ErrThere}, {"both, turned", both(1, 2), both(2, 1), api.ErrThere},
		{"forward of both", both(1, 2), dear(1, 2, 3), api.ErrThere}, {"from elsewhere", both(1, 2), both(3, 2), api.OK}, {"to elsewhere", both(1, 2), both(1, 3), api.OK}, {"another class", both(1, 2), with(reversible, script{class: "q", from: 1, to: 2}), api.OK},
		{"a class whose name begins so", both(1, 2), with(reversible, script{class: "p1", from: 1, to: 2}), api.OK}, {"numbers that read alike", both(1, 12), both(11, 2), api.OK},
	} {
		r := made(t, x.first)
		before := all(r)
		n, e := r.Add(x.other)
		if e != x.want || e == api.OK && n != 2 || e != api.OK && (n != 0 || all(r) != before) {
			t.Errorf("%s: %d, %d, want %d", x.name, n, e, x.want)
		}
	}
}

// P9.1: of several refusals the first one: what can't be ahead of what is there, and that ahead of no room; refused ones take no number.
func TestAddFirstError(t *testing.T) {
	r := made(t, both(1, 2))
	mustRefuse(t, r, exactly(costed, script{class: "p", from: 1, to: 2, cost: 0}), api.ErrArg)
	mustRefuse(t, r, exactly(0, script{class: "P", from: 1, to: 2}), api.ErrName)
	mustRefuse(t, r, with(0, script{from: 1, to: 2, meanwhile: func(string) { panic(1) }}), api.ErrPanic)
	mustRefuse(t, r, exactly(costed, script{class: "", from: 0, to: 0, cost: 0, meanwhile: func(method string) {
		if method == "Cost" {
			panic("last")
		}
	}}), api.ErrPanic)
	mustAdd(t, r, both(2, 3), 2)
	mustRefuse(t, r, both(3, 2), api.ErrThere)
	mustAdd(t, r, both(3, 4), 3)
}

// P9.1: 4096 converters have room, and no more, however many classes and ways they are of.
func TestFull(t *testing.T) {
	r := new(convert.Registry)
	for i := range api.MaxItems {
		class := []string{"p", "q", "r", "s", "t"}[i/999]
		mustAdd(t, r, with(i%8, script{class: class, from: i%999 + 1, to: i%999 + 2}), i+1)
	}
	for _, c := range []api.Converter{plain(1, 3), both(3, 1), dear(7, 9, 1000), exactly(0, script{class: "u", from: 1, to: 2})} {
		mustRefuse(t, r, c, api.ErrFull)
	}
	mustRefuse(t, r, plain(1, 2), api.ErrThere)
	mustRefuse(t, r, both(3, 2), api.ErrThere)
	mustRefuse(t, r, plain(1, 1), api.ErrArg)
	mustRefuse(t, r, exactly(0, script{class: "", from: 1, to: 2}), api.ErrName)
	mustRefuse(t, r, (*strict)(nil), api.ErrPanic)
	mustRefuse(t, r, nil, api.ErrNil)
	for _, n := range []int{1, 2, api.MaxItems} {
		if has, e := r.Has(n); has != (n-1)%8 || e != api.OK {
			t.Error(n, has, e)
		}
	}
	if has, e := r.Has(api.MaxItems + 1); has != 0 || e != api.ErrArg {
		t.Error(has, e)
	}
	l, e := r.Chain("p", 1, api.MaxVersion)
	if len(l) != 999 || l[0] != 1 || l[998] != 999 || e != api.OK {
		t.Error(l, e)
	}
	mustLack(t, r, 1000, 1)
	x, e := r.Convert(sample.Record("t", 1), 100)
	if e != api.OK || x.Version != 100 {
		t.Error(told(x), e)
	}
	if x, e = r.Convert(sample.Record("t", 1), 102); x != nil || e != api.ErrChain {
		t.Error("one more than there are:", told(x), e)
	}
}

// From arguments alone: two Registries know nothing of one another, though one converter is in both.
func TestTwoRegistries(t *testing.T) {
	var a, b convert.Registry
	c := both(1, 2)
	mustAdd(t, &a, c, 1)
	mustAdd(t, &b, plain(5, 6), 1)
	mustAdd(t, &b, c, 2)
	mustAdd(t, &a, plain(2, 3), 2)
	mustChain(t, &a, 1, 3, 1, 2)
	mustLack(t, &b, 1, 3)
	mustChain(t, &b, 2, 1, -2)
	mustChain(t, &a, 2, 1, -1)
}

// turning tells another thing of itself at each call.
type turning struct{ n *int }

func (c turning) From() (string, int) {
	*c.n++
	return []string{"p", "q", ""}[(*c.n-1)%3], *c.n
}
func (c turning) To() int                                  { return *c.n + 1 }
func (c turning) Convert(d api.Dict) (api.Dict, api.Errno) { return d, api.OK }
func (c turning) Cost() int                                { return *c.n }

// P9.1: what a converter told when it was taken up holds, whatever it would tell later.
func TestToldOnce(t *testing.T) {
	var n int
	c := turning{&n}
	r := made(t, c)
	n = 50
	mustChain(t, r, 1, 2, 1)
	mustConvert(t, r, rec("p/1{a: nil}"), 2, "p/2{a: nil}")
	mustReach(t, r, 51, 51)
	n = 1
	mustAdd(t, r, c, 2)
	if l, e := r.Chain("q", 2, 3); len(l) != 1 || l[0] != 2 || e != api.OK {
		t.Error(l, e)
	}
	mustRefuse(t, r, c, api.ErrName)
}

// A converter may call the Registry while it is asked: what it took up then counts.
func TestAddWithinAdd(t *testing.T) {
	var r convert.Registry
	adds := func(c api.Converter, at string, number int) func(string) {
		return func(method string) {
			if method == at {
				mustAdd(t, &r, c, number)
			}
		}
	}
	mustAdd(t, &r, with(costed, script{from: 1, to: 2, meanwhile: adds(plain(2, 3), "From", 1)}), 2)
	mustRefuse(t, &r, with(costed, script{from: 3, to: 4, meanwhile: adds(plain(3, 4), "Cost", 3)}), api.ErrThere)
	mustRefuse(t, &r, with(costed, script{from: 4, to: 5, meanwhile: func(method string) {
		adds(plain(5, 6), "To", 4)(method)
		if method == "Cost" {
			panic("then")
		}
	}}), api.ErrPanic)
	mustChain(t, &r, 1, 4, 2, 1, 3)
	mustChain(t, &r, 5, 6, 4)
	mustLack(t, &r, 4, 5)
}
