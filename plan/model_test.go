package plan_test

import (
	"math/rand"
	"regexp"
	"slices"
	"testing"

	"tenon/api"
	"tenon/path"
	"tenon/plan"
	"tenon/query"
	"tenon/sample"
	"tenon/text"
	"tenon/value"
)

// model is what a table holds, as plainly as the chapter says it: all records are asked for all there is to know.
type model struct {
	defs    []api.IndexOf
	records map[api.Ref]*api.Record
}

// lies is what lies at a way's text in a record, and whether something does.
func lies(r *api.Record, way string) (any, bool) {
	steps, _, _ := path.Parse(way)
	v, e := path.Get(r, steps)
	return v, e == api.OK
}

// key is the key that an index has of a record, and whether it has one.
func key(def api.IndexOf, r *api.Record) (any, bool) {
	v, is := lies(r, def.Way)
	return v, (def.Class == "" || def.Class == r.Class) && (is || !def.Some)
}

// put is what Put answers of a record that can be; with OK it is done.
func (m *model) put(id api.Ref, r *api.Record) api.Errno {
	for _, def := range m.defs {
		own, has := key(def, r)
		for other, s := range m.records {
			if k, had := key(def, s); def.Unique && has && had && other != id && value.Same(k, own) {
				return api.ErrTwice
			}
		}
	}
	m.records[id] = r
	return api.OK
}

// wayAndFixed is the sides of a comparison that may go by an index, told by their texts, and its sign with the way at the left.
func wayAndFixed(e api.Expr) (way, sign string, fixed api.Expr, is bool) {
	turned, is := map[string]string{"=": "=", "<": ">", "<=": ">=", ">": "<", ">=": "<="}[e.Op]
	if !is {
		return
	}
	for i, sign := range []string{e.Op, turned} {
		way := regexp.MustCompile(`\["([a-z][a-z0-9_]*)"\]`).ReplaceAllString(read(e.Parts[i]), ".$1")
		_, _, e1 := path.Parse(way)
		_, _, e2 := text.Parse(regexp.MustCompile(`-0\b`).ReplaceAllString(read(e.Parts[1-i]), "0")) // -0 is no number's text
		if e1 == api.OK && e2 == api.OK && len(query.Names(e.Parts[1-i])) == 0 {                     // -inf names a field here
			return way, sign, e.Parts[1-i], true
		}
	}
	return "", "", api.Expr{}, false
}

// needed is the comparisons that must be true.
func needed(e api.Expr) []api.Expr {
	if e.Op == "and" {
		return append(needed(e.Parts[0]), needed(e.Parts[1])...)
	}
	return []api.Expr{e}
}

func (m *model) plan(class string, e api.Expr) api.Plan {
	best := api.Plan{Index: -1, Asks: len(m.records)}
	for number, def := range m.defs {
		for _, c := range needed(e) {
			way, sign, fixed, is := wayAndFixed(c)
			if !is || way != def.Way || def.Class != "" && def.Class != class || def.Some && sign == "=" && read(fixed) == "nil" {
				continue
			}
			asks := 0
			for _, r := range m.records {
				k, has := key(def, r)
				if is, _, why := query.Match(sample.Expr(sign, sample.Expr("self"), fixed), k); has && is && why == api.OK {
					asks++
				}
			}
			if asks < best.Asks || asks == best.Asks && number == best.Index && c.At < best.At {
				best = api.Plan{Index: number, At: c.At, Asks: asks}
			}
		}
	}
	return best
}

func (m *model) meant(class string, e api.Expr) []api.Ref {
	var l []api.Ref
	for id, r := range m.records {
		if is, _, why := query.Match(e, r); is && why == api.OK && (class == "" || class == r.Class) {
			l = append(l, id)
		}
	}
	slices.Sort(l)
	return l
}

// top is all that are meant in order: each time the one that leads of those that are left.
func (m *model) top(class string, e api.Expr, way string, down bool) []api.Ref {
	left := m.meant(class, e)
	var l []api.Ref
	for len(left) > 0 {
		lead := 0
		for i, id := range left {
			v, _ := lies(m.records[id], way)
			w, _ := lies(m.records[left[lead]], way)
			if n, _ := value.Order(v, w); n < 0 && !down || n > 0 && down {
				lead = i
			}
		}
		l = append(l, left[lead])
		left = slices.Delete(left, lead, lead+1)
	}
	return l
}

// chance makes tables, records and questions.
type chance struct {
	*rand.Rand
	made []*api.Record
}

func newChance(seed int64) *chance { return &chance{Rand: rand.New(rand.NewSource(seed))} }

func (c *chance) one(of ...string) string { return of[c.Intn(len(of))] }

func (c *chance) way() string {
	return c.one("a", "a", "b", "a.b", "b.a", "a[0]", "b[1]", "a[0].b", "c")
}

func (c *chance) defs() []api.IndexOf {
	l := make([]api.IndexOf, c.Intn(9))
	for i := range l {
		l[i] = api.IndexOf{Class: c.one("", "", "", "p", "q"), Way: c.way(), Some: c.Intn(3) == 0, Unique: c.Intn(20) == 0}
	}
	return l
}

// number is one that lies near others, as they are held.
func (c *chance) number() any {
	l := nears()
	if c.Intn(3) > 0 {
		return []any{int64(0), int64(1), 0.0, sample.MinusZero(), 1.0, 0.5, int64(2)}[c.Intn(7)]
	}
	return l[c.Intn(len(l))]
}

func (c *chance) value(depth int) any {
	if c.Intn(2) == 0 {
		return c.number()
	}
	switch n := c.Intn(5); {
	case n == 0 && depth > 1:
		return api.List{c.value(depth - 1), c.value(depth - 1)}
	case n < 3 && depth > 1:
		return api.Dict{sample.Field("a", c.value(depth-1)), sample.Field("b", c.value(depth-1))}
	}
	return sample.Anyhow(c.Intn, depth)
}

func (c *chance) record() *api.Record {
	r := sample.Record(c.one("p", "q"), 1+c.Intn(2))
	for _, name := range []string{"a", "b", "c"} {
		if c.Intn(5) > 0 {
			r.Fields = append(r.Fields, sample.Field(name, c.value(3)))
		}
	}
	c.made = append(c.made, r)
	return r
}

// fixed is a side that mostly is fixed, and often what lies at a way in a record.
func (c *chance) fixed(way string) api.Expr {
	if c.Intn(8) == 0 {
		return sample.AnyExpr(c.Intn, 2)
	}
	v := c.value(2)
	if c.Intn(2) == 0 {
		v, _ = lies(c.made[c.Intn(len(c.made))], way)
	}
	s, _ := text.Print(v)
	e, _, _ := query.Parse(s)
	if read(e) == read(api.Expr{}) {
		return sample.Fixed(int64(0))
	}
	return e
}

// truth is a question: comparisons of ways with what is fixed, other ones, and what is made of those.
func (c *chance) truth(depth int) api.Expr {
	switch n := c.Intn(11); {
	case n < 3 && depth > 1:
		return sample.Expr("and", c.truth(depth-1), c.truth(depth-1))
	case n == 3 && depth > 1:
		return sample.Expr("or", c.truth(depth-1), c.truth(depth-1))
	case n == 4 && depth > 1:
		return sample.Expr("not", c.truth(depth-1))
	case n == 5:
		return sample.AnyTruth(c.Intn, 3)
	}
	way := c.way()
	e, _, _ := query.Parse(way)
	sides := []api.Expr{e, c.fixed(way)}
	if c.Intn(2) == 0 {
		slices.Reverse(sides)
	}
	return sample.Expr(c.one("=", "=", "=", "<", "<=", ">", ">=", "!="), sides...)
}

// question is one with places.
func (c *chance) question(t *testing.T) api.Expr {
	s, _ := query.Print(c.truth(1 + c.Intn(4)))
	return parsed(t, s)
}

// mustAgree is that a table tells what the model tells, however it is asked.
func mustAgree(t *testing.T, c *chance, x *plan.Table, m *model, did map[string]int) {
	t.Helper()
	if x.Len() != len(m.records) {
		t.Fatal(x.Len(), len(m.records))
	}
	e, class := c.question(t), c.one("", "", "", "p", "q", "r")
	p, want := m.plan(class, e), m.meant(class, e)
	mustPlan(t, x, class, e, p)
	mustTell(t, x, class, e, want...)
	if len(want) > p.Asks || p.Asks > x.Len() {
		t.Error(p, want)
	}
	way, down := c.one("", c.way(), c.way()), c.Intn(2) == 0
	most := c.Intn(x.Len() + 2)
	first := m.top(class, e, way, down)
	if l, why := x.Top(class, e, way, down, most); !slices.Equal(l, first[:min(most, len(first))]) || why != api.OK {
		t.Errorf("Top(%q, %s, %q, %v, %d): %d, %d, want %d", class, read(e), way, down, most, l, why, first)
	}
	if p.Index >= 0 {
		did["by an index"]++
		if len(want) > 0 {
			did["found by an index"]++
		}
	}
	if len(want) > 0 {
		did["meant"]++
	}
}

// P18.1 to P18.7: records and questions of all sorts, in tables with indexes of all sorts.
func TestModel(t *testing.T) {
	did := map[string]int{}
	for seed := range int64(40) {
		c := newChance(seed)
		m := &model{c.defs(), map[api.Ref]*api.Record{}}
		x := fresh(t, m.defs...)
		for range 150 {
			id := api.Ref(1 + c.Intn(25))
			if c.Intn(6) == 0 && len(c.made) > 0 {
				_, there := m.records[id]
				delete(m.records, id)
				mustDrop(t, x, id, there)
			} else {
				r := c.record()
				want := m.put(id, r)
				must(t, "Put", x.Put(id, r), want)
				if want == api.ErrTwice {
					did["twice"]++
				}
			}
			if r, there := m.records[id]; there {
				mustGet(t, x, id, r)
			} else {
				mustNotGet(t, x, id)
			}
			for range 3 {
				mustAgree(t, c, x, m, did)
			}
			if t.Failed() {
				t.Fatal(seed, m.defs)
			}
		}
	}
	for name, least := range map[string]int{"twice": 200, "by an index": 3000, "found by an index": 500, "meant": 3000} {
		if did[name] < least {
			t.Errorf("%s: %d times, too little", name, did[name])
		}
	}
}

// P18.8: with further indexes, that refuse no record, the same is told, and no more are asked.
func TestMoreIndexes(t *testing.T) {
	fewer := 0
	for seed := range int64(8) {
		c := newChance(seed)
		var defs []api.IndexOf
		for len(defs) < 16 {
			for _, def := range c.defs() {
				def.Unique = false
				defs = append(defs, def)
			}
		}
		var tables []*plan.Table
		for n := range 17 {
			tables = append(tables, fresh(t, defs[:n]...))
		}
		for id := range api.Ref(40) {
			r := c.record()
			for _, x := range tables {
				mustPut(t, x, id+1, r)
			}
		}
		for range 60 {
			e, class := c.question(t), c.one("", "p", "q")
			want, _ := tables[0].Run(class, e)
			asks := 40
			for n, x := range tables {
				mustTell(t, x, class, e, want...)
				p, _ := x.Plan(class, e)
				if p.Asks > asks || p.Index >= n {
					t.Error(n, class, read(e), p, asks)
				}
				if p.Asks < asks {
					fewer++
				}
				asks = p.Asks
			}
		}
	}
	if fewer < 200 {
		t.Error("seldom fewer:", fewer)
	}
}
