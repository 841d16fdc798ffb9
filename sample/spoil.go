package sample

import (
	"tenon/api"
	"tenon/value"
)

// mark is what stands in spare room.
const mark = "spare room"

// Roomy is the same value with spare room behind each of its lists, fields and bytes, and marks in it.
func Roomy(v any) any {
	switch x := v.(type) {
	case []byte:
		return append(append(make([]byte, 0, len(x)+len(mark)), x...), mark...)[:len(x)]
	case api.List:
		l := make(api.List, 0, len(x)+2)
		for _, part := range x {
			l = append(l, Roomy(part))
		}
		return append(l, mark, mark)[:len(x)]
	case api.Dict:
		return roomyFields(x)
	case *api.Record:
		return Record(x.Class, x.Version, roomyFields(x.Fields)...)
	}
	return v
}

func roomyFields(d api.Dict) api.Dict {
	c := make(api.Dict, 0, len(d)+2)
	for _, f := range d {
		c = append(c, Field(f.Name, Roomy(f.Value)))
	}
	return append(c, Field(mark, mark), Field(mark, mark))[:len(d)]
}

// RoomKept tells whether the marks still stand in a value that Roomy made.
func RoomKept(v any) bool {
	switch x := v.(type) {
	case []byte:
		return string(x[len(x):cap(x)][:len(mark)]) == mark
	case api.List:
		for _, part := range x {
			if !RoomKept(part) {
				return false
			}
		}
		room := x[len(x):cap(x)]
		return room[0] == mark && room[1] == mark
	case api.Dict:
		return fieldsRoomKept(x)
	case *api.Record:
		return fieldsRoomKept(x.Fields)
	}
	return true
}

func fieldsRoomKept(d api.Dict) bool {
	for _, f := range d {
		if !RoomKept(f.Value) {
			return false
		}
	}
	room := d[len(d):cap(d)]
	return room[0] == Field(mark, mark) && room[1] == Field(mark, mark)
}

// Spoil writes over all that a value holds, spare room too: whoever shares memory with it does not read as before.
func Spoil(v any) {
	switch x := v.(type) {
	case []byte:
		x = x[:cap(x)]
		for i := range x {
			x[i] = 0xee
		}
	case api.List:
		x = x[:cap(x)]
		for i, part := range x {
			x[i] = "spoilt"
			Spoil(part)
		}
	case api.Dict:
		spoilFields(x)
	case *api.Record:
		if x != nil {
			d := x.Fields
			*x = api.Record{Class: "spoilt"}
			spoilFields(d)
		}
	}
}

func spoilFields(d api.Dict) {
	d = d[:cap(d)]
	for i, f := range d {
		d[i] = Field("spoilt", "spoilt")
		Spoil(f.Value)
	}
}

// SpoilType does likewise with a type that does not hold itself.
func SpoilType(t api.Type) {
	names, lacks, parts := t.Names[:cap(t.Names)], t.Lacks[:cap(t.Lacks)], t.Parts[:cap(t.Parts)]
	for i := range names {
		names[i] = "spoilt"
	}
	for i := range lacks {
		lacks[i] = i%2 == 0
	}
	for i, part := range parts {
		parts[i] = api.Type{Kind: 99}
		SpoilType(part)
	}
	SpoilTerm(t.Only)
}

// SpoilTerm does likewise with a term that does not hold itself.
func SpoilTerm(t api.Term) {
	Spoil(t.Bytes)
	list, fields := t.List[:cap(t.List)], t.Fields[:cap(t.Fields)]
	for i, part := range list {
		list[i] = api.Term{Kind: 99}
		SpoilTerm(part)
	}
	for i, x := range fields {
		fields[i] = api.Entry{Name: "spoilt"}
		SpoilTerm(x.Value)
	}
}

// SpoilWay does likewise with a way.
func SpoilWay(way []api.Step) {
	way = way[:cap(way)]
	for i := range way {
		way[i] = api.Step{Name: "spoilt", At: true, Index: -1}
	}
}

// Twofold holds one list, one dict, one record and one run of bytes at two places each, all of them with spare room as Roomy makes it.
func Twofold() any {
	b := Roomy([]byte{1, 2})
	l := Roomy(api.List{nil, true}).(api.List)
	l[0] = b
	d := Roomy(api.Dict{Field("b", nil), Field("l", nil)}).(api.Dict)
	d[0].Value, d[1].Value = b, l
	r := Record("r", 1, d...)
	v := Roomy(api.List{nil, nil, nil, nil, nil, nil, nil, nil, "x"}).(api.List)
	for i, part := range []any{b, l, d, r, b, l, d, r} {
		v[i] = part
	}
	return v
}

// Apart writes over values, one behind the other, and tells whether each still reads as before when it is come to; if not, which one is the first that does not.
func Apart(values ...any) (int, bool) {
	var before []any
	for _, v := range values {
		c, _ := value.Copy(v)
		before = append(before, c)
	}
	for i, v := range values {
		if !value.Same(v, before[i]) {
			return i, false
		}
		Spoil(v)
	}
	return 0, true
}
