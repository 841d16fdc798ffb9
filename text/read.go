package text

import (
	"math"
	"strconv"
	"strings"

	"tenon/api"
	"tenon/names"
	"tenon/scan"
)

// reader reads values.
type reader struct {
	scan.Reader
	parts int // how many values have begun
}

func readerOf(s string) *reader { return &reader{Reader: scan.Reader{Text: s}} }

// value reads the next value, which lies that deep and is the nth (from 0) of its list. Whether a field is one too many its name has told before.
func (r *reader) value(depth, nth int) any {
	c := r.Next()
	if r.parts >= api.MaxNodes || depth > api.MaxDepth || nth >= api.MaxItems {
		panic(scan.Fault{At: r.At, Why: api.ErrLong})
	}
	r.parts++
	switch {
	case scan.Digit(c) || c == '+' || c == '-':
		return r.number()
	case scan.Letter(c):
		return r.word(depth)
	case c == '"':
		return r.quoted()
	case c == '#':
		return r.bytes()
	case c == '@':
		return r.ref()
	case c == '[':
		return r.list(depth)
	case c == '{':
		return r.fields(depth)
	}
	panic(scan.Fault{At: r.At, Why: api.ErrForm})
}

// number takes a run just if it is what would be written for the number that it says: so there is one text for each.
func (r *reader) number() any {
	start := r.At
	run := r.Run(isOfNumber)
	if n, err := strconv.ParseInt(run, 10, 64); err == nil && strconv.FormatInt(n, 10) == run {
		return n
	}
	if f, err := strconv.ParseFloat(run, 64); err == nil && Float(f) == run {
		return f
	}
	panic(scan.Fault{At: start, Why: api.ErrForm})
}

func (r *reader) word(depth int) any {
	word, start := r.Word()
	switch {
	case r.Stands('/'):
		return r.record(word, start, depth)
	case word == "nan" && r.Stands('('):
		return r.nan(start)
	case word == "nil":
		return nil
	case word == "true":
		return true
	case word == "false":
		return false
	}
	panic(scan.Fault{At: start, Why: api.ErrForm})
}

// record reads what comes behind a class, which stands at start.
func (r *reader) record(class string, start, depth int) *api.Record {
	if !names.Is(class) {
		panic(scan.Fault{At: start, Why: api.ErrName})
	}
	r.At++
	version := r.Version()
	return &api.Record{Class: strings.Clone(class), Version: version, Fields: r.fields(depth)}
}

// nan goes by what would be written for the bits that it finds: no other float's text begins with nan, and too many digits are none of 64 bits.
func (r *reader) nan(start int) float64 {
	r.At++
	bits, _ := strconv.ParseUint(r.Run(isDigit16), 16, 64)
	f := math.Float64frombits(bits)
	whole := Float(f)
	if !strings.HasPrefix(r.Text[start:], whole) {
		panic(scan.Fault{At: start, Why: api.ErrForm})
	}
	r.At = start + len(whole)
	return f
}

func (r *reader) quoted() string {
	start := r.At
	r.At++
	out := []byte{}
	for !r.Stands('"') {
		out = append(out, r.quotedByte())
	}
	r.At++
	if len(out) > api.MaxText {
		panic(scan.Fault{At: start, Why: api.ErrLong})
	}
	return string(out)
}

func (r *reader) quotedByte() byte {
	start := r.At
	c := r.take()
	switch {
	case !isPlain(c):
		panic(scan.Fault{At: start, Why: api.ErrForm})
	case c == '\\':
		return r.escaped(start)
	}
	return c
}

// escaped reads what stands behind a backslash, which stands at start.
func (r *reader) escaped(start int) byte {
	switch c := r.take(); c {
	case '"', '\\':
		return c
	case 'n':
		return '\n'
	case 't':
		return '\t'
	case 'r':
		return '\r'
	case 'x':
		high := r.escapedDigit(start)
		return high<<4 | r.escapedDigit(start)
	}
	panic(scan.Fault{At: start, Why: api.ErrForm})
}

func (r *reader) escapedDigit(start int) byte {
	c := r.take()
	if !isDigit16(c) {
		panic(scan.Fault{At: start, Why: api.ErrForm})
	}
	return digitOf(c)
}

func (r *reader) bytes() []byte {
	start := r.At
	r.At++
	digits := r.Run(isDigit16)
	switch {
	case len(digits)%2 != 0:
		panic(scan.Fault{At: start, Why: api.ErrForm})
	case len(digits) > 2*api.MaxText:
		panic(scan.Fault{At: start, Why: api.ErrLong})
	}
	b := make([]byte, len(digits)/2)
	for i := range b {
		b[i] = digitOf(digits[2*i])<<4 | digitOf(digits[2*i+1])
	}
	return b
}

func (r *reader) ref() api.Ref {
	start := r.At
	r.At++
	digits := r.Run(scan.Digit)
	n, err := strconv.ParseUint(digits, 10, 64)
	if err != nil || scan.ZeroAhead(digits) {
		panic(scan.Fault{At: start, Why: api.ErrForm})
	}
	return api.Ref(n)
}

func (r *reader) list(depth int) api.List {
	l := api.List{}
	r.Bracketed('[', ']', func(nth int) {
		l = append(l, r.value(depth+1, nth))
	})
	return l
}

func (r *reader) fields(depth int) api.Dict {
	d := api.Dict{}
	ahead := "" // every name is above it
	r.Bracketed('{', '}', func(nth int) {
		name := r.FieldName(nth, ahead)
		r.Mark(':')
		d = append(d, api.Field{Name: name, Value: r.value(depth+1, 0)})
		ahead = name
	})
	return d
}

// take reads a byte, whichever, which must come; a blank is one, too.
func (r *reader) take() byte {
	if r.AtEnd() {
		panic(scan.Fault{At: r.At, Why: api.ErrShort})
	}
	r.At++
	return r.Text[r.At-1]
}

func isDigit16(c byte) bool { return scan.Digit(c) || 'a' <= c && c <= 'f' }

func isOfNumber(c byte) bool {
	return scan.Letter(c) || scan.Digit(c) || c == '.' || c == '+' || c == '-'
}

func digitOf(c byte) byte {
	if scan.Digit(c) {
		return c - '0'
	}
	return c - 'a' + 10
}
