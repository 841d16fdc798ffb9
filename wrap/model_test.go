package wrap_test

import (
	"fmt"
	"math/rand"
	"slices"
	"testing"

	"tenon/api"
	"tenon/object"
	"tenon/sample"
	"tenon/wrap"
)

// node is an object with what it would have to do: the chapter's words, one behind the other.
type node struct {
	o      api.Object
	number int
	kind   string // which maker made it; empty: none
	set    int    // what it has
	of     int    // what the objects have that it was made of
	inner  *node
	by     *node           // of Add
	twin   api.Object      // of no wrapper: another one that answers alike
	throws map[string]bool // in which methods it panics, or whoever is told
}

// call is what a method answers, whether it panics instead, and who is heard of meanwhile.
func (n *node) call(m method, heard *[]string) (string, bool) {
	switch n.kind {
	case "Show":
		return n.inner.call(m, heard)
	case "Add":
		if m.of&n.inner.set == m.of {
			return n.inner.call(m, heard)
		}
		return n.by.call(m, heard)
	case "Guard":
		if s, panics := n.inner.call(m, heard); !panics {
			return s, false
		}
		return m.guarded, false
	case "Count":
		if *heard = append(*heard, fmt.Sprint(n.number, " told ", m.name)); n.throws[m.name] {
			return "", true
		}
		return n.inner.call(m, heard)
	}
	if *heard = append(*heard, fmt.Sprint(n.number, " ", m.name)); n.throws[m.name] {
		return "", true
	}
	return m.call(n.twin), false
}

func (n *node) deep() int {
	if n.inner == nil {
		return 0
	}
	return n.inner.deep() + 1
}

func (n *node) root() *node {
	if n.inner == nil {
		return n
	}
	return n.inner.root()
}

// reach is the first one that has a set, or nil.
func (n *node) reach(has int) api.Object {
	for ; n != nil; n = n.inner {
		if n.set&has == has {
			return n.o
		}
	}
	return nil
}

// world is nodes that are made of one another, and who was heard of.
type world struct {
	r     *rand.Rand
	nodes []*node
	heard []string
}

func (w *world) any() *node {
	if w.r.Intn(3) > 0 { // the later ones, so that they come to lie deep
		return w.nodes[len(w.nodes)-1-w.r.Intn(min(3, len(w.nodes)))]
	}
	return w.nodes[w.r.Intn(len(w.nodes))]
}

// hears is a function that hears of methods, and panics in some.
func (w *world) hears(n *node, says string) func(string) {
	n.throws = map[string]bool{}
	if w.r.Intn(4) == 0 {
		n.throws[methods()[w.r.Intn(len(methods()))].name] = true
	}
	thrown := sample.Thrown()[w.r.Intn(len(sample.Thrown()))]
	return func(method string) {
		w.heard = append(w.heard, fmt.Sprint(n.number, says, method))
		if n.throws[method] {
			panic(thrown)
		}
	}
}

// leaf is an object that is no wrapper.
func (w *world) leaf() {
	n := &node{number: len(w.nodes) + 1, set: w.r.Intn(16)}
	n.of = n.set
	s := numbered(n.number)
	s.Meanwhile = w.hears(n, " ")
	n.o, n.twin = sample.Able(n.set, s), sample.Able(all, numbered(n.number))
	w.nodes = append(w.nodes, n)
}

// wrapper is one around some other one, if that is not too deep.
func (w *world) wrapper(t *testing.T) {
	t.Helper()
	inner, by := w.any(), w.any()
	n := &node{number: len(w.nodes) + 1, inner: inner, set: inner.set, of: inner.of}
	var e api.Errno
	switch n.kind = []string{"Show", "Add", "Guard", "Count"}[w.r.Intn(4)]; n.kind {
	case "Show":
		has := w.r.Intn(16) | w.r.Intn(16)
		n.set &= has
		n.o, e = wrap.Show(inner.o, has)
	case "Add":
		n.by, n.set, n.of = by, n.set|by.set, n.of|by.of
		n.o, e = wrap.Add(inner.o, by.o)
	case "Guard":
		n.o, e = wrap.Guard(inner.o)
	case "Count":
		n.o, e = wrap.Count(inner.o, w.hears(n, " told "))
	}
	if inner.deep() >= 64 {
		mustNot(t, n.kind, n.o, e, api.ErrLong)
		return
	}
	made(t, n.o, e)
	w.nodes = append(w.nodes, n)
}

// look holds what a node has, and what is inside, against the model.
func (w *world) look(t *testing.T, n *node) {
	t.Helper()
	mustHave(t, n.o, n.set)
	if n.set&^n.of != 0 {
		t.Fatal("the model makes an ability up")
	}
	if got, e := object.Abilities(n.o); got&^n.of != 0 || e != api.OK {
		t.Error(got, e)
	}
	var inner api.Object
	if n.inner != nil {
		inner = n.inner.o
	}
	if in, is := wrap.Inner(n.o); in != inner || is != (inner != nil) {
		t.Errorf("Inner of %s: %T, %v", n.kind, in, is)
	}
	if wrap.Root(n.o) != n.root().o || wrap.Deep(n.o) != n.deep() {
		t.Errorf("Root, Deep of %s: %T, %d", n.kind, wrap.Root(n.o), wrap.Deep(n.o))
	}
	for has := range 16 {
		mustReach(t, n.o, has, n.reach(has))
	}
	if len(w.heard) > 0 {
		t.Errorf("called: %q", w.heard)
	}
}

// P11.5, P11.7, P11.8: however wrappers lie in one another, they have, hold and answer what the model does, and the same are heard of, in the same order.
func TestModel(t *testing.T) {
	r := rand.New(rand.NewSource(11))
	for range 60 {
		w := &world{r: r}
		for range 1 + r.Intn(5) {
			w.leaf()
		}
		for range 120 {
			w.wrapper(t)
		}
		for range 150 {
			n := w.nodes[r.Intn(len(w.nodes))]
			w.look(t, n)
			has := methodsOf(n.set)
			m := has[r.Intn(len(has))]
			var heard []string
			want, panics := n.call(m, &heard)
			var got string
			kind, _ := object.Try(func() { got = m.call(n.o) })
			if (kind != api.NoPanic) != panics || got != want {
				t.Errorf("%s: %q, panic %d; want %q, %v", m.logged, got, kind, want, panics)
			}
			if !slices.Equal(w.heard, heard) {
				t.Errorf("%s: heard of %q, want %q", m.logged, w.heard, heard)
			}
			w.heard = nil
		}
	}
}
