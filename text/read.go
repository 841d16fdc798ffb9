package text

import (
	"math"
	"strconv"
	"strings"

	"tenon/api"
	"tenon/names"
)

// fault is what a reader panics with when it gives up: at which place, and why.
type fault struct {
	at  int
	why api.Errno
}

// read has a text read, and catches a reader that gives up; so those that read parts go on as if nothing could be wrong. Any other panic would be a mistake of this package: it is not hidden.
func read(s string, by func(*reader) (any, int)) (v any, at int, why api.Errno) {
	defer func() {
		switch f := recover().(type) {
		case nil:
		case fault:
			v, at, why = nil, f.at, f.why
		default:
			panic(f)
		}
	}()
	v, at = by(&reader{text: s})
	return v, at, api.OK
}

// reader goes through a text from left to right, so that the first error is the one it gives up with.
type reader struct {
	text  string
	at    int // up to where it has read
	parts int // how many values have begun
}

// value reads the next value, which lies that deep and is the nth (from 0) of its list. Whether a field is one too many its name has told before.
func (r *reader) value(depth, nth int) any {
	c := r.next()
	if r.parts >= api.MaxNodes || depth > api.MaxDepth || nth >= api.MaxItems {
		panic(fault{r.at, api.ErrLong})
	}
	r.parts++
	switch {
	case isDigit(c) || c == '+' || c == '-':
		return r.number()
	case isLetter(c):
		return r.word(depth)
	case c == '"':
		return r.quoted()
	case c == '#':
		return r.bytes()
	case c == '@':
		return r.ref()
	case c == '[':
		return r.list(depth)
	case c == '{':
		return r.fields(depth)
	}
	panic(fault{r.at, api.ErrForm})
}

// number takes a run just if it is what would be written for the number that it says: so there is one text for each.
func (r *reader) number() any {
	start := r.at
	run := r.run(isOfNumber)
	if n, err := strconv.ParseInt(run, 10, 64); err == nil && strconv.FormatInt(n, 10) == run {
		return n
	}
	if f, err := strconv.ParseFloat(run, 64); err == nil && Float(f) == run {
		return f
	}
	panic(fault{start, api.ErrForm})
}

func (r *reader) word(depth int) any {
	start := r.at
	word := r.run(names.Byte)
	switch {
	case r.stands('/'):
		r.nameRule(word, start)
		r.at++
		version := r.version()
		return &api.Record{Class: strings.Clone(word), Version: version, Fields: r.fields(depth)}
	case word == "nan" && r.stands('('):
		return r.nan(start)
	case word == "nil":
		return nil
	case word == "true":
		return true
	case word == "false":
		return false
	}
	panic(fault{start, api.ErrForm})
}

func (r *reader) version() int {
	start := r.at
	digits := r.run(isDigit)
	switch {
	case digits == "" && r.atEnd():
		panic(fault{start, api.ErrShort})
	case digits == "" || hasZeroAhead(digits):
		panic(fault{start, api.ErrForm})
	}
	n, err := strconv.Atoi(digits)
	if err != nil || n < 1 || n > api.MaxVersion {
		panic(fault{start, api.ErrArg})
	}
	return n
}

// nan goes by what would be written for the bits that it finds: no other float's text begins with nan, and too many digits are none of 64 bits.
func (r *reader) nan(start int) float64 {
	r.at++
	bits, _ := strconv.ParseUint(r.run(isDigit16), 16, 64)
	f := math.Float64frombits(bits)
	whole := Float(f)
	if !strings.HasPrefix(r.text[start:], whole) {
		panic(fault{start, api.ErrForm})
	}
	r.at = start + len(whole)
	return f
}

func (r *reader) quoted() string {
	start := r.at
	r.at++
	out := []byte{}
	for !r.stands('"') {
		out = append(out, r.quotedByte())
	}
	r.at++
	if len(out) > api.MaxText {
		panic(fault{start, api.ErrLong})
	}
	return string(out)
}

func (r *reader) quotedByte() byte {
	start := r.at
	c := r.take()
	switch {
	case !isPlain(c):
		panic(fault{start, api.ErrForm})
	case c == '\\':
		return r.escaped(start)
	}
	return c
}

// escaped reads what stands behind a backslash, which stands at start.
func (r *reader) escaped(start int) byte {
	switch c := r.take(); c {
	case '"', '\\':
		return c
	case 'n':
		return '\n'
	case 't':
		return '\t'
	case 'r':
		return '\r'
	case 'x':
		high := r.escapedDigit(start)
		return high<<4 | r.escapedDigit(start)
	}
	panic(fault{start, api.ErrForm})
}

func (r *reader) escapedDigit(start int) byte {
	c := r.take()
	if !isDigit16(c) {
		panic(fault{start, api.ErrForm})
	}
	return digitOf(c)
}

func (r *reader) bytes() []byte {
	start := r.at
	r.at++
	digits := r.run(isDigit16)
	switch {
	case len(digits)%2 != 0:
		panic(fault{start, api.ErrForm})
	case len(digits) > 2*api.MaxText:
		panic(fault{start, api.ErrLong})
	}
	b := make([]byte, len(digits)/2)
	for i := range b {
		b[i] = digitOf(digits[2*i])<<4 | digitOf(digits[2*i+1])
	}
	return b
}

func (r *reader) ref() api.Ref {
	start := r.at
	r.at++
	digits := r.run(isDigit)
	n, err := strconv.ParseUint(digits, 10, 64)
	if err != nil || hasZeroAhead(digits) {
		panic(fault{start, api.ErrForm})
	}
	return api.Ref(n)
}

func (r *reader) list(depth int) api.List {
	l := api.List{}
	r.bracketed('[', ']', func(nth int) {
		l = append(l, r.value(depth+1, nth))
	})
	return l
}

func (r *reader) fields(depth int) api.Dict {
	d := api.Dict{}
	ahead := "" // every name is above it
	r.bracketed('{', '}', func(nth int) {
		name := r.name(nth, ahead)
		r.mark(':')
		d = append(d, api.Field{Name: name, Value: r.value(depth+1, 0)})
		ahead = name
	})
	return d
}

// bracketed reads brackets and the items between them, with commas between these; the nth item by a call of item.
func (r *reader) bracketed(open, shut byte, item func(nth int)) {
	r.mark(open)
	if r.next() == shut {
		r.at++
		return
	}
	for nth := 0; ; nth++ {
		item(nth)
		switch r.next() {
		case ',':
			r.at++
		case shut:
			r.at++
			return
		default:
			panic(fault{r.at, api.ErrForm})
		}
	}
}

// name reads the name of the nth field, which comes behind one of the name ahead.
func (r *reader) name(nth int, ahead string) string {
	r.next()
	start := r.at
	run := r.run(names.Byte)
	switch {
	case run == "":
		panic(fault{start, api.ErrForm})
	case nth >= api.MaxItems:
		panic(fault{start, api.ErrLong})
	}
	r.nameRule(run, start)
	if run <= ahead {
		panic(fault{start, api.ErrName})
	}
	return strings.Clone(run)
}

func (r *reader) nameRule(run string, start int) {
	if !names.Is(run) {
		panic(fault{start, api.ErrName})
	}
}

// mark reads a bracket or a colon.
func (r *reader) mark(c byte) {
	if r.next() != c {
		panic(fault{r.at, api.ErrForm})
	}
	r.at++
}

// next is the first byte that is no blank; it is not read yet.
func (r *reader) next() byte {
	r.skipBlanks()
	r.endRule()
	return r.text[r.at]
}

// take reads a byte, whichever.
func (r *reader) take() byte {
	r.endRule()
	r.at++
	return r.text[r.at-1]
}

// endRule is of places where something must come.
func (r *reader) endRule() {
	if r.atEnd() {
		panic(fault{r.at, api.ErrShort})
	}
}

func (r *reader) atEnd() bool { return r.at == len(r.text) }

// stands tells whether that byte comes right here.
func (r *reader) stands(c byte) bool { return !r.atEnd() && r.text[r.at] == c }

func (r *reader) skipBlanks() { r.run(isBlank) }

// run reads as many bytes as are of a sort.
func (r *reader) run(isOf func(byte) bool) string {
	start := r.at
	for !r.atEnd() && isOf(r.text[r.at]) {
		r.at++
	}
	return r.text[start:r.at]
}

func isBlank(c byte) bool { return c == ' ' || c == '\t' || c == '\n' || c == '\r' }

func isLetter(c byte) bool { return 'a' <= c && c <= 'z' }

func isDigit(c byte) bool { return '0' <= c && c <= '9' }

func isDigit16(c byte) bool { return isDigit(c) || 'a' <= c && c <= 'f' }

func isOfNumber(c byte) bool {
	return isLetter(c) || isDigit(c) || c == '.' || c == '+' || c == '-'
}

func digitOf(c byte) byte {
	if isDigit(c) {
		return c - '0'
	}
	return c - 'a' + 10
}

// hasZeroAhead does not hold of nought itself, whose text is one digit.
func hasZeroAhead(digits string) bool { return len(digits) > 1 && digits[0] == '0' }
