// Package scan holds what the readers of texts have in common: they go from left to right, and give up by panic at the first error; whoever began the reading catches it.
package scan

import (
	"strconv"
	"strings"

	"tenon/api"
	"tenon/names"
)

// Fault is what a reader panics with when it gives up: at which place, and why.
type Fault struct {
	At  int
	Why api.Errno
}

// Catch has something read, and catches a reader that gives up; so those that read parts go on as if nothing could be wrong. Any other panic would be a mistake of the program: it is not hidden.
func Catch[T any](read func() (T, int)) (answer T, at int, why api.Errno) {
	defer func() {
		switch f := recover().(type) {
		case nil:
		case Fault:
			at, why = f.At, f.Why
		default:
			panic(f)
		}
	}()
	answer, at = read()
	return answer, at, api.OK
}

// Reader goes through a text from left to right, so that the first error is the one it gives up with.
type Reader struct {
	Text string
	At   int // up to where it has read
}

// Next is the first byte that is no blank; it is not read yet. Something must come there.
func (r *Reader) Next() byte {
	r.SkipBlanks()
	if r.AtEnd() {
		panic(Fault{r.At, api.ErrShort})
	}
	return r.Text[r.At]
}

// Mark reads a bracket, a colon or the like, which must come.
func (r *Reader) Mark(c byte) {
	if r.Next() != c {
		panic(Fault{r.At, api.ErrForm})
	}
	r.At++
}

// Takes reads that byte, if it comes behind any blanks: whether it does.
func (r *Reader) Takes(c byte) bool {
	r.SkipBlanks()
	if !r.Stands(c) {
		return false
	}
	r.At++
	return true
}

// Bracketed reads brackets and the items between them, with commas between these; the nth item by a call of item.
func (r *Reader) Bracketed(open, shut byte, item func(nth int)) {
	r.Mark(open)
	if r.Takes(shut) {
		return
	}
	item(0)
	for nth := 1; r.Takes(','); nth++ {
		item(nth)
	}
	r.Mark(shut)
}

// Word reads the next word, which must come, and tells its place.
func (r *Reader) Word() (string, int) {
	r.Next()
	start := r.At
	word := r.Run(names.Byte)
	if word == "" {
		panic(Fault{start, api.ErrForm})
	}
	return word, start
}

// FieldName reads the name of the nth field, which comes behind one of the name ahead (empty: none).
func (r *Reader) FieldName(nth int, ahead string) string {
	word, start := r.Word()
	switch {
	case nth >= api.MaxItems:
		panic(Fault{start, api.ErrLong})
	case !names.Is(word) || word <= ahead:
		panic(Fault{start, api.ErrName})
	}
	return strings.Clone(word)
}

// Version reads a version's number, which stands right here.
func (r *Reader) Version() int {
	start := r.At
	if r.AtEnd() {
		panic(Fault{start, api.ErrShort})
	}
	digits := r.Run(Digit)
	if digits == "" || ZeroAhead(digits) {
		panic(Fault{start, api.ErrForm})
	}
	n, err := strconv.Atoi(digits)
	if err != nil || n < 1 || n > api.MaxVersion {
		panic(Fault{start, api.ErrArg})
	}
	return n
}

// End is of places behind which nothing but blanks may stand.
func (r *Reader) End() {
	r.SkipBlanks()
	if !r.AtEnd() {
		panic(Fault{r.At, api.ErrMore})
	}
}

// AtEnd tells whether all is read.
func (r *Reader) AtEnd() bool { return r.At == len(r.Text) }

// Stands tells whether that byte comes right here.
func (r *Reader) Stands(c byte) bool { return !r.AtEnd() && r.Text[r.At] == c }

// SkipBlanks reads as many blanks as there are.
func (r *Reader) SkipBlanks() { r.Run(blank) }

// Run reads as many bytes as are of a sort.
func (r *Reader) Run(isOf func(byte) bool) string {
	start := r.At
	for !r.AtEnd() && isOf(r.Text[r.At]) {
		r.At++
	}
	return r.Text[start:r.At]
}

// Letter tells whether a byte is one of a to z.
func Letter(c byte) bool { return 'a' <= c && c <= 'z' }

// Digit tells whether a byte is one of 0 to 9.
func Digit(c byte) bool { return '0' <= c && c <= '9' }

// ZeroAhead does not hold of nought itself, whose text is one digit.
func ZeroAhead(digits string) bool { return len(digits) > 1 && digits[0] == '0' }

func blank(c byte) bool { return c == ' ' || c == '\t' || c == '\n' || c == '\r' }
