package value

import (
	"bytes"
	"strings"

	"tenon/api"
)

// What stands here is of values and terms that can be: they were walked before, so that they end. Each part gets memory of its own, also where the argument has one list or record at two places; texts, too, so that an answer does not hold fast a greater text of which the argument's was a piece.

func copyOf(v any) any {
	switch x := v.(type) {
	case string:
		return strings.Clone(x)
	case []byte:
		return bytes.Clone(x)
	case api.List:
		l := make(api.List, len(x))
		for i, part := range x {
			l[i] = copyOf(part)
		}
		return l
	case api.Dict:
		return copyDict(x)
	case *api.Record:
		return &api.Record{Class: strings.Clone(x.Class), Version: x.Version, Fields: copyDict(x.Fields)}
	}
	return v // the other kinds hold nothing that could be shared
}

func copyDict(d api.Dict) api.Dict {
	c := make(api.Dict, len(d))
	for i, f := range d {
		c[i] = api.Field{Name: strings.Clone(f.Name), Value: copyOf(f.Value)}
	}
	return c
}

func termOf(v any) api.Term {
	t := api.Term{Kind: kindOf(v)}
	switch x := v.(type) {
	case bool:
		t.Bool = x
	case int64:
		t.Int = x
	case float64:
		t.Float = x
	case string:
		t.Text = strings.Clone(x)
	case []byte:
		t.Bytes = bytes.Clone(x)
	case api.Ref:
		t.Ref = x
	case api.List:
		t.List = make([]api.Term, len(x))
		for i, part := range x {
			t.List[i] = termOf(part)
		}
	case api.Dict:
		t.Fields = entriesOf(x)
	case *api.Record:
		t.Class, t.Version, t.Fields = strings.Clone(x.Class), x.Version, entriesOf(x.Fields)
	}
	return t
}

func entriesOf(d api.Dict) []api.Entry {
	l := make([]api.Entry, len(d))
	for i, f := range d {
		l[i] = api.Entry{Name: strings.Clone(f.Name), Value: termOf(f.Value)}
	}
	return l
}

func valueOf(t api.Term) any {
	switch t.Kind {
	case api.KBool:
		return t.Bool
	case api.KInt:
		return t.Int
	case api.KFloat:
		return t.Float
	case api.KText:
		return strings.Clone(t.Text)
	case api.KBytes:
		return bytes.Clone(t.Bytes)
	case api.KRef:
		return t.Ref
	case api.KList:
		l := make(api.List, len(t.List))
		for i, part := range t.List {
			l[i] = valueOf(part)
		}
		return l
	case api.KDict:
		return dictOf(t.Fields)
	case api.KRecord:
		return &api.Record{Class: strings.Clone(t.Class), Version: t.Version, Fields: dictOf(t.Fields)}
	}
	return nil
}

func dictOf(l []api.Entry) api.Dict {
	d := make(api.Dict, len(l))
	for i, x := range l {
		d[i] = api.Field{Name: strings.Clone(x.Name), Value: valueOf(x.Value)}
	}
	return d
}
