package schema

import (
	"strconv"
	"strings"

	"tenon/api"
	"tenon/kinds"
	"tenon/text"
	"tenon/value"
)

// The words of types, but for the kinds', and of classes.
const (
	wordAny      = "any"
	wordNone     = "none"
	wordIs       = "is"
	wordOf       = "of"
	wordClass    = "class"
	wordAbstract = "abstract"
	wordWas      = "was"
	dots         = "..."
)

// writer gathers the texts of types and classes that can be.
type writer struct{ strings.Builder }

func (w *writer) add(words ...string) {
	for _, s := range words {
		w.WriteString(s)
	}
}

func (w *writer) typeText(t api.Type) {
	switch t.Kind {
	case api.TAny:
		w.add(wordAny)
	case api.TNone:
		w.add(wordNone)
	case api.TKind:
		w.add(kinds.Word(t.Of))
	case api.TOnly:
		w.add(wordIs, " ", termText(t.Only))
	case api.TList:
		w.add("[")
		w.typeText(t.Parts[0])
		w.add("]")
	case api.TDict:
		w.dict(t)
	case api.TUnion:
		w.union(t)
	case api.TRecord:
		w.add(wordOf, " ", t.Class)
	}
}

func (w *writer) dict(t api.Type) {
	w.add("{")
	between := ""
	for i, name := range t.Names {
		w.add(between, name)
		if t.Lacks[i] {
			w.add("?")
		}
		w.add(": ")
		w.typeText(t.Parts[i])
		between = ", "
	}
	if t.Open {
		w.add(between, dots)
	}
	w.add("}")
}

func (w *writer) union(t api.Type) {
	for i, part := range t.Parts {
		if i > 0 {
			w.add(" | ")
		}
		if part.Kind != api.TUnion {
			w.typeText(part)
			continue
		}
		w.add("(")
		w.typeText(part)
		w.add(")")
	}
}

func (w *writer) class(c api.Class) {
	w.add(wordClass, " ", c.Name, " ", strconv.Itoa(c.Version))
	if c.Parent != "" {
		w.add(" : ", c.Parent, " ", strconv.Itoa(c.ParentVersion))
	}
	if c.Abstract {
		w.add(" ", wordAbstract)
	}
	w.add(" {\n")
	for _, f := range c.Fields {
		w.field(f)
	}
	w.add("}\n")
}

func (w *writer) field(f api.FieldOf) {
	w.add("  ", f.Name, ": ")
	w.typeText(f.Type)
	if f.Has {
		w.add(" = ", termText(f.Default))
	}
	if f.Was != "" {
		w.add(" ", wordWas, " ", f.Was)
	}
	w.add("\n")
}

// termText is of a term that can be, so that there is no error to tell.
func termText(t api.Term) string {
	v, _ := value.Of(t)
	s, _ := text.Print(v)
	return s
}
