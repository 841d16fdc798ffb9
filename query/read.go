package query

import (
	"strings"

	"tenon/api"
	"tenon/kinds"
	"tenon/names"
	"tenon/ops"
	"tenon/scan"
	"tenon/text"
	"tenon/value"
)

// reader reads expressions: of each level there is a method, and it reads what lies in it by that of the next level.
type reader struct {
	scan.Reader
	around int // in how many others lies what comes next
	begun  int // how many expressions have begun
}

// whole reads an expression of any level.
func (r *reader) whole() api.Expr { return r.joined(r.conjunction, ops.Or) }

func (r *reader) conjunction() api.Expr { return r.joined(r.negation, ops.And) }

func (r *reader) negation() api.Expr {
	at, is := r.takes(ops.Not)
	if !is {
		return r.comparison()
	}
	r.mayLie(at)
	r.begin(at)
	return api.Expr{Op: ops.Not, At: at, Parts: []api.Expr{r.within(r.negation)}}
}

func (r *reader) comparison() api.Expr {
	e := r.sum()
	op, at, is := r.takesOne(ops.Equal, ops.Unequal, ops.UpTo, ops.Less, ops.From, ops.More, ops.In, ops.Is)
	if !is {
		return e
	}
	r.begin(at)
	if op == ops.Is {
		return api.Expr{Op: op, At: at, Name: r.known(isKind), Parts: []api.Expr{e}}
	}
	return api.Expr{Op: op, At: at, Parts: []api.Expr{e, r.sum()}}
}

func (r *reader) sum() api.Expr { return r.joined(r.product, ops.Plus, ops.Minus) }

func (r *reader) product() api.Expr { return r.joined(r.signed, ops.Times, ops.Divide, ops.Rest) }

// signed is of level 7: all that is of a higher level is read by it.
func (r *reader) signed() api.Expr {
	c := r.Next()
	if !begins(c) {
		panic(scan.Fault{At: r.At, Why: api.ErrForm})
	}
	r.mayLie(r.At)
	if c != '-' {
		return r.way()
	}
	at := r.At
	r.At++
	r.begin(at)
	return api.Expr{Op: ops.Neg, At: at, Parts: []api.Expr{r.within(r.signed)}}
}

// way reads a thing and the steps that lead on from it.
func (r *reader) way() api.Expr {
	e := r.thing()
	for {
		op, at, is := r.takesOne(".", "[")
		if !is {
			return e
		}
		r.begin(at)
		if op == "." {
			e = api.Expr{Op: ops.Dot, At: at, Name: r.known(names.Is), Parts: []api.Expr{e}}
			continue
		}
		e = api.Expr{Op: ops.At, At: at, Parts: []api.Expr{e, r.within(r.whole)}}
		r.Mark(']')
	}
}

// thing reads what stands right here, whose first byte begins something.
func (r *reader) thing() api.Expr {
	at := r.At
	switch c := r.Text[at]; {
	case c == '(':
		r.At++
		e := r.within(r.whole)
		r.Mark(')')
		return e
	case c == '[':
		r.begin(at)
		return api.Expr{Op: ops.List, At: at, Parts: r.bracketed('[', ']')}
	case scan.Letter(c):
		return r.word()
	}
	r.begin(at)
	return r.constant(at, r.Text[at:])
}

func (r *reader) word() api.Expr {
	word, at := r.Word()
	switch word {
	case wordNil, wordTrue, wordFalse:
		r.begin(at)
		return r.constant(at, word)
	case ops.Self:
		r.begin(at)
		return api.Expr{Op: ops.Self, At: at}
	}
	if !isField(word) {
		panic(scan.Fault{At: at, Why: api.ErrWord})
	}
	r.SkipBlanks()
	if r.Stands('(') {
		return r.call(word, at)
	}
	r.begin(at)
	return api.Expr{Op: ops.Field, At: at, Name: strings.Clone(word)}
}

// call reads what stands behind a function's name, which stands at that place.
func (r *reader) call(function string, at int) api.Expr {
	n := partsTaken(function)
	if n == 0 {
		panic(scan.Fault{At: at, Why: api.ErrWord})
	}
	r.begin(at)
	parts := r.bracketed('(', ')')
	if len(parts) != n {
		panic(scan.Fault{At: at, Why: api.ErrWord})
	}
	return api.Expr{Op: ops.Call, At: at, Name: strings.Clone(function), Parts: parts}
}

// constant reads a value, which stands at that place, out of a text that begins there. Of a word that is no more than the word: layer 2 would read a record of the class nil.
func (r *reader) constant(at int, from string) api.Expr {
	v, n, e := text.First(from)
	if e != api.OK {
		panic(scan.Fault{At: at + n, Why: e})
	}
	r.At = at + n
	term, _ := value.Plain(v)
	return api.Expr{Op: ops.Value, At: at, Value: term}
}

// joined reads expressions with signs or words between them, each with all that stands ahead at its left.
func (r *reader) joined(part func() api.Expr, ops ...string) api.Expr {
	e := part()
	for {
		op, at, is := r.takesOne(ops...)
		if !is {
			return e
		}
		r.begin(at)
		e = api.Expr{Op: op, At: at, Parts: []api.Expr{e, part()}}
	}
}

func (r *reader) bracketed(open, shut byte) []api.Expr {
	var l []api.Expr
	r.Bracketed(open, shut, func(int) { l = append(l, r.within(r.whole)) })
	return l
}

// within reads what lies in what was read just now.
func (r *reader) within(read func() api.Expr) api.Expr {
	r.around++
	e := read()
	r.around--
	return e
}

// known reads a word that must be one of a sort.
func (r *reader) known(isOf func(string) bool) string {
	if c := r.Next(); !scan.Letter(c) {
		panic(scan.Fault{At: r.At, Why: api.ErrForm})
	}
	word, at := r.Word()
	if !isOf(word) {
		panic(scan.Fault{At: at, Why: api.ErrWord})
	}
	return strings.Clone(word)
}

// takesOne reads the first of these signs and words that comes, and tells its place. A sign with which another one begins must stand behind it.
func (r *reader) takesOne(ops ...string) (string, int, bool) {
	for _, op := range ops {
		if at, is := r.takes(op); is {
			return op, at, true
		}
	}
	return "", 0, false
}

// takes reads a sign or a word, if it comes, and tells its place. A word must be the whole one that stands there.
func (r *reader) takes(op string) (int, bool) {
	r.SkipBlanks()
	rest, comes := strings.CutPrefix(r.Text[r.At:], op)
	if !comes || scan.Letter(op[0]) && rest != "" && names.Byte(rest[0]) {
		return 0, false
	}
	at := r.At
	r.At += len(op)
	return at, true
}

// mayLie gives up, if what begins at a place lies in too many others.
func (r *reader) mayLie(at int) {
	if r.around >= api.MaxDepth {
		panic(scan.Fault{At: at, Why: api.ErrLong})
	}
}

// begin counts an expression, whose At that is.
func (r *reader) begin(at int) {
	if r.begun == api.MaxNodes {
		panic(scan.Fault{At: at, Why: api.ErrLong})
	}
	r.begun++
}

// begins tells whether something of level 7 begins with a byte.
func begins(c byte) bool {
	return scan.Letter(c) || scan.Digit(c) || strings.IndexByte(`-(["#@`, c) >= 0
}

func isField(word string) bool { return names.Is(word) && !reserved(word) }

func isKind(word string) bool { return kinds.Of(word) > 0 }
