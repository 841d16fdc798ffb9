package sample

import (
	"math"
	"slices"
	"strconv"
	"strings"

	"tenon/api"
	"tenon/names"
	"tenon/value"
)

// Naming is a record that names these identities, 0 among them or not.
func Naming(ids ...api.Ref) *api.Record {
	l := api.List{}
	for _, id := range ids {
		l = append(l, id)
	}
	return Record("n", 1, Field("l", l))
}

// StoredNaming is so many records under the identities from 1 on, of which each names the one behind it, the last one the first.
func StoredNaming(n int) []api.Stored {
	var l []api.Stored
	for i := range n {
		l = append(l, api.Stored{ID: api.Ref(i + 1), Record: Naming(api.Ref((i+1)%n + 1))})
	}
	return l
}

// RootNames is so many roots of one record, by their names.
func RootNames(n int, id api.Ref) []api.Root {
	var l []api.Root
	for i := range n {
		l = append(l, api.Root{Name: "r" + strconv.Itoa(10000+i), ID: id})
	}
	return l
}

// Named is an image under a name.
type Named struct {
	Name  string
	Image api.Image
}

// Images is images that can be: each edge that chapter 13 names, and ordinary ones.
func Images() []Named {
	const last = lastNext
	one := []api.Stored{{ID: 1, Record: Record("a", 1)}}
	great := []api.Stored{{ID: 3, Record: Record("a", 1, Field("a", Numbered(api.MaxNodes-3, api.Ref(9))), Field("b", nil))}, {ID: 9, Record: Record("z", api.MaxVersion, Field("a", Within(api.MaxDepth-1, api.Ref(3))))}}
	return []Named{
		{"empty", api.Image{Room: 1, Next: 1}}, {"empty lists", api.Image{Room: 1, Next: 1, Records: []api.Stored{}, Roots: []api.Root{}}},
		{"greatest room", api.Image{Room: api.MaxHeap, Next: 1}}, {"greatest Next", api.Image{Room: 2, Next: last}},
		{"full", api.Image{Room: 1, Next: 2, Records: one}}, {"greatest full", api.Image{Room: api.MaxHeap, Next: api.MaxHeap + 1, Records: StoredNaming(api.MaxHeap)}},
		{"greatest identity", api.Image{Room: 2, Next: last, Records: []api.Stored{{ID: 1, Record: Naming(last - 1)}, {ID: last - 1, Record: Naming(1)}}}},
		{"gaps", api.Image{Room: 5, Next: 90, Records: []api.Stored{{ID: 3, Record: Naming(70, 0)}, {ID: 20, Record: Naming(20, 3)}, {ID: 70, Record: Naming()}}, Roots: []api.Root{{Name: "a", ID: 70}, {Name: "a_", ID: 3}, {Name: "b", ID: 70}}}},
		{"itself", api.Image{Room: 1, Next: 2, Records: []api.Stored{{ID: 1, Record: Naming(1, 1)}}}}, {"ring", api.Image{Room: 9, Next: 9, Records: StoredNaming(3)}},
		{"great records", api.Image{Room: 2, Next: 10, Records: great, Roots: []api.Root{{Name: "top", ID: 9}}}},
		{"most roots", api.Image{Room: 1, Next: 2, Records: one, Roots: RootNames(api.MaxItems, 1)}},
		{"longest name", api.Image{Room: 1, Next: 2, Records: one, Roots: []api.Root{{Name: strings.Repeat("x", api.MaxName), ID: 1}}}},
	}
}

// lastNext is the greatest Next of an image.
const lastNext = 1 << 62

// WrongImages is images that can't be, each for one thing that chapter 13 asks.
func WrongImages() []Named {
	l := []Named{
		{"zero", api.Image{}}, {"no room", api.Image{Next: 1}}, {"great room", api.Image{Room: api.MaxHeap + 1, Next: 1}},
		{"next 0, no records", api.Image{Room: 1}}, {"next beyond, no records", api.Image{Room: 1, Next: lastNext + 1}},
		{"too many records", api.Image{Room: api.MaxHeap, Next: api.MaxHeap + 2, Records: StoredNaming(api.MaxHeap + 1)}},
	}
	wrong := func(name string, with func(x *api.Image)) {
		x := api.Image{Room: 3, Next: 8, Records: []api.Stored{{ID: 2, Record: Naming(5)}, {ID: 5, Record: Naming(2, 0)}, {ID: 7, Record: Naming(7)}}, Roots: []api.Root{{Name: "a", ID: 2}, {Name: "b", ID: 2}, {Name: "c", ID: 7}}}
		with(&x)
		l = append(l, Named{name, x})
	}
	for _, room := range []int{math.MinInt, -1, 0, 1, 2, api.MaxHeap + 1, math.MaxInt} {
		wrong("room "+strconv.Itoa(room), func(x *api.Image) { x.Room = room })
	}
	for _, next := range []api.Ref{0, 1, 2, 7, lastNext + 1, 1 << 63, math.MaxUint64} {
		wrong("next "+number(next), func(x *api.Image) { x.Next = next })
	}
	wrongRecords(wrong)
	wrongRoots(wrong)
	return l
}

func number(id api.Ref) string { return strconv.FormatUint(uint64(id), 10) }

func wrongRecords(wrong func(name string, with func(x *api.Image))) {
	wrong("identity 0", func(x *api.Image) { x.Records[0].ID, x.Records[1].Record, x.Roots = 0, Naming(), nil })
	wrong("identity twice", func(x *api.Image) { x.Room, x.Records = 4, slices.Insert(x.Records, 1, x.Records[0]) })
	wrong("identities fall", func(x *api.Image) { x.Records[0], x.Records[1] = x.Records[1], x.Records[0] })
	for _, id := range []api.Ref{8, 9, lastNext, math.MaxUint64} {
		wrong("identity "+number(id), func(x *api.Image) { x.Records[2], x.Roots = api.Stored{ID: id, Record: Naming()}, nil })
	}
	wrong("no record", func(x *api.Image) { x.Records[1].Record = nil })
	for _, w := range Wrongs() {
		wrong("record with "+w.Name, func(x *api.Image) { x.Records[1].Record = Record("a", 1, Field("a", w.V)) })
		if r, ok := w.V.(*api.Record); ok {
			wrong("record that is "+w.Name, func(x *api.Image) { x.Records[1].Record = r })
		}
	}
	for _, id := range []api.Ref{1, 3, 6, 8, 9, lastNext, math.MaxUint64} {
		wrong("names "+number(id), func(x *api.Image) { x.Records[2].Record = Record("a", 1, Field("a", api.List{nil, Naming(5, id, 0)})) })
	}
}

func wrongRoots(wrong func(name string, with func(x *api.Image))) {
	for _, id := range []api.Ref{0, 1, 3, 6, 8, 9, lastNext, math.MaxUint64} {
		wrong("root of "+number(id), func(x *api.Image) { x.Roots[1].ID = id })
		wrong("only root of "+number(id), func(x *api.Image) { x.Roots = []api.Root{{Name: "a", ID: id}} })
	}
	wrong("roots fall", func(x *api.Image) { x.Roots[0].Name, x.Roots[1].Name = "b", "a" })
	wrong("root twice", func(x *api.Image) { x.Roots[1].Name = "a" })
	wrong("last root twice", func(x *api.Image) { x.Roots[2].Name = "b" })
	for _, name := range BadNames() {
		wrong("root's name "+name, func(x *api.Image) { x.Roots = []api.Root{{Name: name, ID: 2}} })
	}
	wrong("too many roots", func(x *api.Image) { x.Roots = RootNames(api.MaxItems+1, 2) })
}

// ImageCanBe tells so by going through all that chapter 13 asks, one thing behind the other.
func ImageCanBe(x api.Image) bool {
	if x.Room < 1 || x.Room > api.MaxHeap || x.Next < 1 || x.Next > 1<<62 || len(x.Records) > x.Room || len(x.Roots) > api.MaxItems {
		return false
	}
	there := map[api.Ref]int{0: 1}
	for i, s := range x.Records {
		if _, e := value.Check(s.Record); e != api.OK || s.ID == 0 || s.ID >= x.Next || i > 0 && s.ID <= x.Records[i-1].ID {
			return false
		}
		there[s.ID] = 1
	}
	for _, s := range x.Records {
		for _, id := range RefsOf(s.Record) {
			if there[id] == 0 {
				return false
			}
		}
	}
	for i, r := range x.Roots {
		if !names.Is(r.Name) || r.ID == 0 || there[r.ID] == 0 || i > 0 && r.Name <= x.Roots[i-1].Name {
			return false
		}
	}
	return true
}

// RefsOf is all references within a value that does not hold itself, in the order of its parts, 0 too.
func RefsOf(v any) []api.Ref {
	var l []api.Ref
	switch x := v.(type) {
	case api.Ref:
		return []api.Ref{x}
	case api.List:
		for _, part := range x {
			l = append(l, RefsOf(part)...)
		}
	case api.Dict:
		for _, f := range x {
			l = append(l, RefsOf(f.Value)...)
		}
	case *api.Record:
		return RefsOf(x.Fields)
	}
	return l
}

// SameImages tells whether two images tell of the same heap.
func SameImages(a, b api.Image) bool {
	return a.Room == b.Room && a.Next == b.Next && slices.Equal(a.Roots, b.Roots) && slices.EqualFunc(a.Records, b.Records, func(x, y api.Stored) bool { return x.ID == y.ID && value.Same(x.Record, y.Record) })
}

// CopyImage is an image that shares nothing with another one.
func CopyImage(x api.Image) api.Image {
	c := api.Image{Room: x.Room, Next: x.Next, Roots: slices.Clone(x.Roots)}
	for _, s := range x.Records {
		own, _ := value.Copy(s.Record)
		c.Records = append(c.Records, api.Stored{ID: s.ID, Record: own.(*api.Record)})
	}
	return c
}

// SpoilImage writes over all that an image holds, spare room too.
func SpoilImage(x api.Image) {
	records, roots := x.Records[:cap(x.Records)], x.Roots[:cap(x.Roots)]
	for i, s := range records {
		records[i] = api.Stored{ID: 77}
		Spoil(s.Record)
	}
	for i := range roots {
		roots[i] = api.Root{Name: "spoilt", ID: 77}
	}
}
