package schema

import (
	"strings"

	"tenon/api"
	"tenon/kinds"
	"tenon/names"
	"tenon/scan"
	"tenon/text"
	"tenon/types"
	"tenon/value"
)

// reader reads types and classes.
type reader struct {
	scan.Reader
	open  int // how many brackets of the type are open
	parts int // how many types it has so far, itself not among them
}

func readerOf(s string) *reader { return &reader{Reader: scan.Reader{Text: s}} }

// wholeType reads a type that is no part of another one. Only at its end is it told whether it lies too deep or has too many types: an error in its text comes first.
func (r *reader) wholeType() api.Type {
	r.Next()
	start := r.At
	r.parts = 0
	t := r.typeOrUnion()
	if r.parts >= api.MaxNodes || !types.Can(t) {
		panic(scan.Fault{At: start, Why: api.ErrLong})
	}
	return t
}

func (r *reader) typeOrUnion() api.Type {
	first := r.oneType()
	if !r.Takes('|') {
		return first
	}
	t := api.Type{Kind: api.TUnion}
	r.addPart(&t, first)
	for {
		r.addPart(&t, r.oneType())
		if !r.Takes('|') {
			return t
		}
	}
}

// oneType reads a type that is no union, unless it stands between brackets.
func (r *reader) oneType() api.Type {
	c := r.Next()
	switch {
	case scan.Letter(c):
		return r.wordType()
	case c == '(':
		return r.typeWithin('(', ')')
	case c == '[':
		t := api.Type{Kind: api.TList}
		r.addPart(&t, r.typeWithin('[', ']'))
		return t
	case c == '{':
		return r.dict()
	}
	panic(scan.Fault{At: r.At, Why: api.ErrForm})
}

func (r *reader) wordType() api.Type {
	word, start := r.Word()
	switch word {
	case wordAny:
		return api.Type{Kind: api.TAny}
	case wordNone:
		return api.Type{Kind: api.TNone}
	case wordIs:
		return api.Type{Kind: api.TOnly, Only: r.term()}
	case wordOf:
		return api.Type{Kind: api.TRecord, Class: r.name()}
	}
	if kind := kinds.Of(word); kind > 0 {
		return api.Type{Kind: api.TKind, Of: kind}
	}
	panic(scan.Fault{At: start, Why: api.ErrForm})
}

func (r *reader) typeWithin(open, shut byte) api.Type {
	r.enter()
	r.Mark(open)
	t := r.typeOrUnion()
	r.Mark(shut)
	r.open--
	return t
}

func (r *reader) dict() api.Type {
	r.enter()
	t := api.Type{Kind: api.TDict}
	ahead := "" // every name is above it
	r.Bracketed('{', '}', func(nth int) {
		if r.takesDots() {
			t.Open = true
			return
		}
		ahead = r.FieldName(nth, ahead)
		t.Names = append(t.Names, ahead)
		t.Lacks = append(t.Lacks, r.Takes('?'))
		r.Mark(':')
		r.addPart(&t, r.typeOrUnion())
	})
	r.open--
	return t
}

// takesDots reads the dots, if they come, behind which a dict must end.
func (r *reader) takesDots() bool {
	r.SkipBlanks()
	if !strings.HasPrefix(r.Text[r.At:], dots) {
		return false
	}
	r.At += len(dots)
	if r.Next() != '}' {
		panic(scan.Fault{At: r.At, Why: api.ErrForm})
	}
	return true
}

// enter is of a bracket that comes here.
func (r *reader) enter() {
	if r.open == api.MaxDepth {
		panic(scan.Fault{At: r.At, Why: api.ErrLong})
	}
	r.open++
}

// addPart keeps no part of a type that has too many already: it will be refused, and till then its text alone matters, however long that is.
func (r *reader) addPart(t *api.Type, part api.Type) {
	r.parts++
	if r.parts < api.MaxNodes {
		t.Parts = append(t.Parts, part)
	}
}

// term reads a value, as layer 2 has it.
func (r *reader) term() api.Term {
	v, n, e := text.First(r.Text[r.At:])
	if e != api.OK {
		panic(scan.Fault{At: r.At + n, Why: e})
	}
	r.At += n
	t, _ := value.Plain(v)
	return t
}

// name reads a word that must be a name.
func (r *reader) name() string {
	word, start := r.Word()
	if !names.Is(word) {
		panic(scan.Fault{At: start, Why: api.ErrName})
	}
	return strings.Clone(word)
}
