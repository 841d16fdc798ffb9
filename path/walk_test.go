package path_test

import (
	"math/rand"
	"strings"
	"testing"

	"tenon/api"
	"tenon/path"
	"tenon/sample"
	"tenon/value"
)

// parted has parts in all kinds that have any.
const parted = `[[true], {a: 1, b: c/1{x: nil, y: []}}, 2]`

// shown is what was shown, as one text.
type shown []string

func (s *shown) add(way []api.Step, part any) { *s = append(*s, sayWay(way)+"="+say(part)) }

func (s shown) is(t *testing.T, what, want string) {
	t.Helper()
	if got := strings.Join(s, "; "); got != want {
		t.Errorf("%s: shown\n%s\nwant\n%s", what, got, want)
	}
}

// P4.5: each part with its way, in the order of the parts' numbers.
func TestWalk(t *testing.T) {
	for v, want := range map[string]string{
		parted: "=[[true], {a: 1, b: c/1{x: nil, y: []}}, 2]; [0]=[true]; [0][0]=true; [1]={a: 1, b: c/1{x: nil, y: []}}; [1].a=1; [1].b=c/1{x: nil, y: []}; [1].b.x=nil; [1].b.y=[]; [2]=2",
		"nil":  "=nil", "#0102": "=#0102", "[]": "=[]", "{}": "={}", "c/2{}": "=c/2{}", "{a: {b: 1}, c: 2}": "={a: {b: 1}, c: 2}; a={b: 1}; a.b=1; c=2", "c/2{z: [1, 2]}": "=c/2{z: [1, 2]}; z=[1, 2]; z[0]=1; z[1]=2",
	} {
		var s shown
		if e := path.Walk(val(v), func(way []api.Step, part any) int { s.add(way, part); return api.GoOn }); e != api.OK {
			t.Error(v, e)
		}
		s.is(t, v, want)
	}
}

// P4.5: Past leaves out what is within, Stop all else, and any other number is an error.
func TestWalkAnswers(t *testing.T) {
	all := "=[[true], {a: 1, b: c/1{x: nil, y: []}}, 2]; [0]=[true]; "
	for _, x := range []struct {
		at   string // the way of the part at which it is said
		said int
		want string
		why  api.Errno
	}{
		{"", api.Past, "=[[true], {a: 1, b: c/1{x: nil, y: []}}, 2]", 0}, {"[0]", api.Past, all + "[1]={a: 1, b: c/1{x: nil, y: []}}; [1].a=1; [1].b=c/1{x: nil, y: []}; [1].b.x=nil; [1].b.y=[]; [2]=2", 0}, {"[1]", api.Past, all + "[0][0]=true; [1]={a: 1, b: c/1{x: nil, y: []}}; [2]=2", 0}, {"[1].b", api.Past, all + "[0][0]=true; [1]={a: 1, b: c/1{x: nil, y: []}}; [1].a=1; [1].b=c/1{x: nil, y: []}; [2]=2", 0}, {"[2]", api.Past, all + "[0][0]=true; [1]={a: 1, b: c/1{x: nil, y: []}}; [1].a=1; [1].b=c/1{x: nil, y: []}; [1].b.x=nil; [1].b.y=[]; [2]=2", 0}, {"[0][0]", api.Past, all + "[0][0]=true; [1]={a: 1, b: c/1{x: nil, y: []}}; [1].a=1; [1].b=c/1{x: nil, y: []}; [1].b.x=nil; [1].b.y=[]; [2]=2", 0},
		{"", api.Stop, "=[[true], {a: 1, b: c/1{x: nil, y: []}}, 2]", 0}, {"[0]", api.Stop, "=[[true], {a: 1, b: c/1{x: nil, y: []}}, 2]; [0]=[true]", 0}, {"[0][0]", api.Stop, all + "[0][0]=true", 0}, {"[1].b.x", api.Stop, all + "[0][0]=true; [1]={a: 1, b: c/1{x: nil, y: []}}; [1].a=1; [1].b=c/1{x: nil, y: []}; [1].b.x=nil", 0},
		{"", 3, "=[[true], {a: 1, b: c/1{x: nil, y: []}}, 2]", api.ErrStop}, {"[0]", -1, "=[[true], {a: 1, b: c/1{x: nil, y: []}}, 2]; [0]=[true]", api.ErrStop}, {"[0][0]", 1 << 40, all + "[0][0]=true", api.ErrStop}, {"[1].b.x", 43, all + "[0][0]=true; [1]={a: 1, b: c/1{x: nil, y: []}}; [1].a=1; [1].b=c/1{x: nil, y: []}; [1].b.x=nil", api.ErrStop},
	} {
		var s shown
		e := path.Walk(val(parted), func(way []api.Step, part any) int {
			s.add(way, part)
			if sayWay(way) == x.at {
				return x.said
			}
			return api.GoOn
		})
		if e != x.why {
			t.Errorf("%d at %q: error %d, want %d", x.said, x.at, e, x.why)
		}
		s.is(t, x.at, x.want)
	}
	if e := path.Walk(api.List{nil, nil}, func(way []api.Step, _ any) int {
		if len(way) == 1 && way[0].Index == 1 {
			return -5
		}
		return api.GoOn
	}); e != api.ErrStop {
		t.Error("at the last part of all:", e)
	}
}

// P4.6: those within ahead, with their ways, and each part with those within as they came out.
func TestMap(t *testing.T) {
	var s shown
	v, e := path.Map(val(parted), func(way []api.Step, part any) (any, api.Errno) {
		s.add(way, part)
		return int64(len(s)), api.OK
	})
	answers(t, "numbered", v, e, "9", api.OK)
	s.is(t, "numbered", "[0][0]=true; [0]=[1]; [1].a=1; [1].b.x=nil; [1].b.y=[]; [1].b=c/1{x: 4, y: 5}; [1]={a: 3, b: 6}; [2]=2; =[2, 7, 8]")

	s = nil
	v, e = path.Map(val(parted), func(way []api.Step, part any) (any, api.Errno) {
		s.add(way, part)
		return api.List{part}, api.OK
	})
	answers(t, "each in a list", v, e, "[[[[[true]]], [{a: [1], b: [c/1{x: [nil], y: [[]]}]}], [2]]]", api.OK)
	s.is(t, "each in a list", "[0][0]=true; [0]=[[true]]; [1].a=1; [1].b.x=nil; [1].b.y=[]; [1].b=c/1{x: [nil], y: [[]]}; [1]={a: [1], b: [c/1{x: [nil], y: [[]]}]}; [2]=2; =[[[[true]]], [{a: [1], b: [c/1{x: [nil], y: [[]]}]}], [2]]")

	for _, x := range []struct {
		v, at, becomes, want string
	}{
		{parted, "", "nil", "nil"}, {parted, "[0]", "7", "[7, {a: 1, b: c/1{x: nil, y: []}}, 2]"}, {parted, "[1].b", "d/2{z: 1}", "[[true], {a: 1, b: d/2{z: 1}}, 2]"}, {parted, "[1].b.x", "[[1]]", "[[true], {a: 1, b: c/1{x: [[1]], y: []}}, 2]"}, {"3", "", "[4]", "[4]"}, {"{a: 1, b: 2}", "a", "{b: 3}", "{a: {b: 3}, b: 2}"},
	} {
		v, e := path.Map(val(x.v), func(way []api.Step, part any) (any, api.Errno) {
			if sayWay(way) == x.at {
				return val(x.becomes), api.OK
			}
			return part, api.OK
		})
		answers(t, x.v+" with "+x.becomes+" at "+x.at, v, e, x.want, api.OK)
	}
}

// P4.6: the changer's own error, or Check's error of what it answers, at the first that has one; then it is not called again.
func TestMapErrors(t *testing.T) {
	calls := 0
	at := func(place string, x any, why api.Errno) func([]api.Step, any) (any, api.Errno) {
		calls = 0
		return func(way []api.Step, part any) (any, api.Errno) {
			calls++
			if sayWay(way) == place {
				return x, why
			}
			return part, api.OK
		}
	}
	order := []string{"[0][0]", "[0]", "[1].a", "[1].b.x", "[1].b.y", "[1].b", "[1]", "[2]", ""}
	for i, place := range order {
		for _, why := range []api.Errno{api.ErrArg, api.ErrPanic, api.ErrPeer, -1, 12345} {
			v, e := path.Map(val(parted), at(place, "beside", why))
			answers(t, "an error at "+place, v, e, "", why)
			if calls != i+1 {
				t.Errorf("an error at %q: %d calls, want %d", place, calls, i+1)
			}
		}
		for _, w := range sample.Wrongs() {
			v, e := path.Map(val(parted), at(place, w.V, api.OK))
			answers(t, w.Name+" at "+place, v, e, "", w.Why)
			if calls != i+1 {
				t.Errorf("%s at %q: %d calls, want %d", w.Name, place, calls, i+1)
			}
			v, e = path.Map(val(parted), at(place, w.V, api.ErrPeer))
			answers(t, w.Name+" beside an error at "+place, v, e, "", api.ErrPeer)
		}
	}
}

// P4.6: a part that those within made too deep or too great is shown; what counts is what is answered, and the whole.
func TestMapTooMuch(t *testing.T) {
	for _, great := range []any{sample.Within(api.MaxDepth, nil), sample.Numbered(api.MaxNodes-1, nil)} {
		grow := func(atTop func(any) any) func([]api.Step, any) (any, api.Errno) {
			return func(way []api.Step, part any) (any, api.Errno) {
				switch len(way) {
				case 2:
					return great, api.OK
				case 1:
					if l := part.(api.List); len(l) != 2 || !value.Same(l[0], great) || !value.Same(l[1], great) {
						t.Error("not shown as it came out")
					}
					return atTop(part), api.OK
				}
				return part, api.OK
			}
		}
		v, e := path.Map(val("[[1, 2], [3, 4]]"), grow(func(part any) any { return part }))
		answers(t, "handed on", v, e, "", api.ErrLong)
		v, e = path.Map(val("[[1, 2], [3, 4]]"), grow(func(part any) any { return int64(len(part.(api.List))) }))
		answers(t, "made small again", v, e, "[2, 2]", api.OK)
	}
	full := sample.Within(api.MaxDepth, nil)
	v, e := path.Map(full, func(way []api.Step, part any) (any, api.Errno) {
		if len(way) == 0 {
			return api.List{part}, api.OK
		}
		return part, api.OK
	})
	answers(t, "too deep at the end", v, e, "", api.ErrLong)
	v, e = path.Map(full, func(way []api.Step, part any) (any, api.Errno) {
		if len(way) == api.MaxDepth-1 {
			return api.List{}, api.OK
		}
		return part, api.OK
	})
	if e != api.OK || !value.Same(v, sample.Within(api.MaxDepth, api.List{})) {
		t.Error("as deep as can be:", e)
	}
}

// P4.7: the ways of what is meant, in Walk's order.
func TestFind(t *testing.T) {
	for _, x := range []struct {
		v     string
		meant func(any) bool
		want  string
	}{
		{parted, func(any) bool { return true }, "| [0]| [0][0]| [1]| [1].a| [1].b| [1].b.x| [1].b.y| [2]|"}, {parted, func(any) bool { return false }, ""}, {parted, func(v any) bool { return value.Kind(v) == api.KList }, "| [0]| [1].b.y|"}, {parted, func(v any) bool { return v == nil }, "[1].b.x|"}, {parted, func(v any) bool { return value.Kind(v) == api.KInt }, "[1].a| [2]|"}, {"nil", func(v any) bool { return v == nil }, "|"}, {"[1, 2, 1]", func(v any) bool { return v == int64(1) }, "[0]| [2]|"},
	} {
		l, e := path.Find(val(x.v), x.meant)
		var s []string
		for _, way := range l {
			s = append(s, sayWay(way)+"|")
		}
		if got := strings.Join(s, " "); got != x.want || e != api.OK {
			t.Errorf("%s: %q, %d, want %q", x.v, got, e, x.want)
		}
	}
}

// P4.5 to P4.7, section 4.2: a function that panics is caught, wherever it does, and is not called again.
func TestPanics(t *testing.T) {
	calls := 0
	for n := 1; n <= 9; n++ {
		for _, x := range sample.Thrown() {
			throw := func() {
				if calls++; calls == n {
					panic(x)
				}
			}
			calls = 0
			if e := path.Walk(val(parted), func([]api.Step, any) int { throw(); return api.GoOn }); e != api.ErrPanic || calls != n {
				t.Errorf("Walk, %T at %d: %d, %d calls", x, n, e, calls)
			}
			calls = 0
			if v, e := path.Map(val(parted), func(_ []api.Step, part any) (any, api.Errno) { throw(); return part, api.OK }); v != nil || e != api.ErrPanic || calls != n {
				t.Errorf("Map, %T at %d: %v, %d, %d calls", x, n, v, e, calls)
			}
			calls = 0
			if l, e := path.Find(val(parted), func(any) bool { throw(); return true }); len(l) != 0 || e != api.ErrPanic || calls != n {
				t.Errorf("Find, %T at %d: %v, %d, %d calls", x, n, l, e, calls)
			}
		}
	}
	if e := path.Walk(nil, func([]api.Step, any) int { return []int{}[calls] }); e != api.ErrPanic {
		t.Error("a mistake of the visitor's:", e)
	}
}

// P4.5 to P4.7, section 4.2: the value's error, then ErrArg of a function that is nil; no function is called of what can't be.
func TestFunctionErrors(t *testing.T) {
	called := func() { t.Error("called") }
	visit := func([]api.Step, any) int { called(); return api.Stop }
	change := func([]api.Step, any) (any, api.Errno) { called(); return nil, api.OK }
	meant := func(any) bool { called(); return true }
	for _, w := range sample.Wrongs() {
		for _, none := range []bool{false, true} {
			if none {
				visit, change, meant = nil, nil, nil
			}
			if e := path.Walk(w.V, visit); e != w.Why {
				t.Errorf("Walk, %s: %d", w.Name, e)
			}
			v, e := path.Map(w.V, change)
			answers(t, "Map, "+w.Name, v, e, "", w.Why)
			if l, e := path.Find(w.V, meant); len(l) != 0 || e != w.Why {
				t.Errorf("Find, %s: %v, %d", w.Name, l, e)
			}
		}
		visit = func([]api.Step, any) int { called(); return api.Stop }
		change = func([]api.Step, any) (any, api.Errno) { called(); return nil, api.OK }
		meant = func(any) bool { called(); return true }
	}
	for _, v := range []any{nil, val(parted)} {
		if e := path.Walk(v, nil); e != api.ErrArg {
			t.Error("Walk without a visitor:", e)
		}
		if x, e := path.Map(v, nil); x != nil || e != api.ErrArg {
			t.Error("Map without a changer:", x, e)
		}
		if l, e := path.Find(v, nil); len(l) != 0 || e != api.ErrArg {
			t.Error("Find without a function:", l, e)
		}
	}
}

// P4.13: Walk shows all parts, the one of each number as that; Get of each way is the part; Find of all is the same ways; Map with the part itself is the value.
func TestAllParts(t *testing.T) {
	r := rand.New(rand.NewSource(13))
	all := sample.Rich()
	for range 1000 {
		all = append(all, sample.Anyhow(r.Intn, 5), sample.Anything(r.Uint64, 4))
	}
	for i, v := range all {
		parts, depth, _ := value.Size(v)
		few := parts < 200 // of the greatest ones not each part is asked, since that takes long
		var ways [][]api.Step
		deepest := 0
		e := path.Walk(v, func(way []api.Step, part any) int {
			if got, e := path.Get(v, way); few && (e != api.OK || !value.Same(got, part)) {
				t.Errorf("%d: Get of %s: %d", i, sayWay(way), e)
			}
			if few {
				numberIs(t, v, way, len(ways))
			}
			deepest = max(deepest, len(way)+1)
			ways = append(ways, way)
			return api.GoOn
		})
		if e != api.OK || len(ways) != parts || deepest != depth {
			t.Fatalf("%d: %d parts, %d deep, %d, want %d, %d", i, len(ways), deepest, e, parts, depth)
		}
		found, e := path.Find(v, func(any) bool { return true })
		if e != api.OK || len(found) != parts {
			t.Fatalf("%d: Find of all: %d, %d", i, len(found), e)
		}
		for n := range found {
			if sayWay(found[n]) != sayWay(ways[n]) {
				t.Fatalf("%d: %v found, %v shown", i, found[n], ways[n])
			}
		}
		calls := 0
		same, e := path.Map(v, func(way []api.Step, part any) (any, api.Errno) { calls++; return part, api.OK })
		if e != api.OK || !value.Same(same, v) || calls != parts {
			t.Fatalf("%d: Map with the part itself: %d, %d calls", i, e, calls)
		}
	}
}

// numberIs lays what can't be at a way, and sees which part Check tells of.
func numberIs(t *testing.T, v any, way []api.Step, number int) {
	t.Helper()
	whole, _ := value.Copy(v)
	if n, e := value.Check(laid(whole, way, func() {})); n != number || e != api.ErrKind {
		t.Errorf("%s is part %d, shown as %d", sayWay(way), n, number)
	}
}

// laid is a value with another one at a way, whether or not that can be; the value itself is written into.
func laid(v any, way []api.Step, x any) any {
	if len(way) == 0 {
		return x
	}
	switch y := v.(type) {
	case api.List:
		y[way[0].Index] = laid(y[way[0].Index], way[1:], x)
	case api.Dict:
		for i, f := range y {
			if f.Name == way[0].Name {
				y[i].Value = laid(f.Value, way[1:], x)
			}
		}
	case *api.Record:
		laid(y.Fields, way, x)
	}
	return v
}
