package schema_test

import (
	"math/rand"
	"slices"
	"strings"
	"testing"

	"tenon/api"
	"tenon/names"
	"tenon/sample"
	"tenon/schema"
	"tenon/text"
)

// reading goes through a text as the chapter tells it, but for the limits: by a list of the brackets that are open instead of calls within calls. It makes nothing of the text: it tells where it stopped, and why.
type reading struct {
	s     string
	at    int
	place int       // of the first error
	why   api.Errno // of the first error; OK: none so far
	open  []bracket // those of the type
}

// bracket is one that is open: by which byte it is closed, and, of fields, the name that stands last.
type bracket struct {
	shut byte
	last string
}

// stop tells an error, unless there was one.
func (r *reading) stop(at int, why api.Errno) {
	if r.why == api.OK {
		r.place, r.why = at, why
	}
}

// peek is the next byte behind blanks; 0 at the end.
func (r *reading) peek() byte {
	for r.at < len(r.s) && strings.IndexByte(" \t\n\r", r.s[r.at]) >= 0 {
		r.at++
	}
	if r.at == len(r.s) {
		return 0
	}
	return r.s[r.at]
}

// missing tells that something else must come here.
func (r *reading) missing() {
	r.peek()
	if r.at == len(r.s) {
		r.stop(r.at, api.ErrShort)
	}
	r.stop(r.at, api.ErrForm)
}

// must goes past one of some bytes: which one.
func (r *reading) must(bytes string) byte {
	c := r.peek()
	if r.at == len(r.s) || strings.IndexByte(bytes, c) < 0 {
		r.missing()
		return 0
	}
	r.at++
	return c
}

// run is the longest run of bytes of words, or of digits, behind blanks, and its place.
func (r *reading) run(of string) (string, int) {
	r.peek()
	start := r.at
	rest := r.s[start:]
	r.at += len(rest) - len(strings.TrimLeft(rest, of))
	return r.s[start:r.at], start
}

const wordBytes = "abcdefghijklmnopqrstuvwxyz0123456789_"

// name goes past a name, which must be above another one.
func (r *reading) name(above string) string {
	word, start := r.run(wordBytes)
	switch {
	case word == "":
		r.missing()
	case !names.Is(word) || word <= above:
		r.stop(start, api.ErrName)
	}
	return word
}

// value goes past a value.
func (r *reading) value() {
	_, n, e := text.First(r.s[r.at:])
	if e != api.OK {
		r.stop(r.at+n, e)
		return
	}
	r.at += n
}

// types goes past a type, up to the first byte that can't be of it.
func (r *reading) types() {
	ended := false // whether what stands ahead is a type
	for r.why == api.OK {
		c := r.peek()
		switch {
		case !ended && strings.IndexByte("([{", c) >= 0 && c != 0:
			r.at++
			r.open = append(r.open, bracket{shut: ")]}"[strings.IndexByte("([{", c)]})
			ended = c == '{' && r.peek() == '}'
			if c == '{' && !ended {
				ended = r.fieldBegins()
			}
		case !ended && 'a' <= c && c <= 'z':
			r.word()
			ended = true
		case !ended:
			r.missing()
		case c == '|':
			r.at++
			ended = false
		case len(r.open) == 0:
			return
		case r.last().shut == '}':
			switch r.must(",}") {
			case ',':
				ended = r.fieldBegins()
			case '}':
				r.open = r.open[:len(r.open)-1]
			}
		default:
			r.must(string(r.last().shut))
			r.open = r.open[:len(r.open)-1]
		}
	}
}

func (r *reading) last() *bracket { return &r.open[len(r.open)-1] }

// fieldBegins goes up to a field's type, or past the dots: whether these, so that only the bracket can follow.
func (r *reading) fieldBegins() bool {
	r.peek()
	if strings.HasPrefix(r.s[r.at:], "...") {
		r.at += 3
		if r.peek() != '}' {
			r.missing()
		}
		return true
	}
	r.last().last = r.name(r.last().last)
	if r.why == api.OK && r.must("?:") == '?' {
		r.must(":")
	}
	return false
}

func (r *reading) word() {
	word, start := r.run(wordBytes)
	switch {
	case word == "is":
		r.value()
	case word == "of":
		r.name("")
	case !slices.Contains(strings.Fields("any none nil bool int float text bytes ref list dict record"), word):
		r.stop(start, api.ErrForm)
	}
}

// version goes past a version's number.
func (r *reading) version() {
	digits, start := r.run("0123456789")
	switch {
	case digits == "":
		r.missing()
	case len(digits) > 1 && digits[0] == '0':
		r.stop(start, api.ErrForm)
	case digits == "0" || len(digits) > 4 || len(digits) == 4 && digits > "1000":
		r.stop(start, api.ErrArg)
	}
}

// comes tells whether that word comes next; it is gone past, if it does, unless a colon stands behind it where none may.
func (r *reading) comes(word string, noColon bool) bool {
	r.peek()
	start := r.at
	got, _ := r.run(wordBytes)
	if got == word && !(noColon && r.peek() == ':') {
		return true
	}
	r.at = start
	return false
}

// classes goes past classes, each by a list of what must come of it.
func (r *reading) classes() {
	for r.peek(); r.at < len(r.s) && r.why == api.OK; r.peek() {
		if !r.comes("class", false) {
			r.missing()
		}
		for _, part := range []func(){func() { r.name("") }, r.version, r.parent, func() { r.comes("abstract", false) }, func() { r.must("{") }, r.fields} {
			if r.why == api.OK {
				part()
			}
		}
	}
}

func (r *reading) parent() {
	if r.peek() != ':' {
		return
	}
	r.at++
	r.name("")
	if r.why == api.OK {
		r.version()
	}
}

func (r *reading) fields() {
	last := ""
	for r.why == api.OK && r.peek() != '}' {
		last = r.name(last)
		for _, part := range []func(){func() { r.must(":") }, r.types, r.byDefault, r.was} {
			if r.why == api.OK {
				part()
			}
		}
		for r.why == api.OK && r.peek() == ';' {
			r.at++
		}
	}
	if r.why == api.OK {
		r.at++
	}
}

func (r *reading) byDefault() {
	if r.peek() == '=' {
		r.at++
		r.value()
	}
}

func (r *reading) was() {
	if r.comes("was", true) {
		r.name("")
	}
}

// readType is what ParseType must tell of a text within the limits.
func readType(s string) (int, api.Errno) {
	r := reading{s: s}
	r.types()
	if r.peek(); r.at < len(s) {
		r.stop(r.at, api.ErrMore)
	}
	return r.place, r.why
}

// readClasses is what Parse must tell.
func readClasses(s string) (int, api.Errno) {
	r := reading{s: s}
	r.classes()
	return r.place, r.why
}

// changed is a text with a few of its bytes or words gone, twice there, or another one's.
func changed(r *rand.Rand, s string) string {
	pieces := []string{"{", "}", "[", "]", "(", ")", ",", ":", ":", "?", "|", "=", ";", "...", ".", " ", "\n", "is ", "of ", " was ", " class ", " abstract ", "any", "int", "nil", "a", "b ", "z", "1", "0", "9", "_", "A", `"`, "-", "@", "#"}
	for range 1 + r.Intn(2) {
		from := r.Intn(len(s) + 1)
		to := min(len(s), from+r.Intn(4))
		switch r.Intn(4) {
		case 0:
			s = s[:from] + s[to:]
		case 1:
			s = s[:to] + s[from:]
		case 2:
			s = s[:from] + pieces[r.Intn(len(pieces))] + s[to:]
		case 3:
			s = s[:from] + pieces[r.Intn(len(pieces))] + s[from:]
		}
	}
	return s
}

// P6.1 and P6.2: of texts that are nearly right the place and the first error; each beginning of a text that is right, too.
func TestReadingAsTheModel(t *testing.T) {
	r := rand.New(rand.NewSource(11))
	seen := map[api.Errno]int{}
	for range 20000 {
		s, _ := schema.PrintType(sample.AnyhowType(r.Intn, 4))
		if s = changed(r, s); r.Intn(10) == 0 {
			s = s[:r.Intn(len(s)+1)]
		}
		at, why := readType(s)
		if _, gotAt, got := schema.ParseType(s); gotAt != at || got != why {
			t.Fatalf("ParseType(%q): %d, %d, want %d, %d", s, gotAt, got, at, why)
		}
		seen[why]++
		s, _ = schema.Print([]api.Class{anyClass(r), anyClass(r)})
		if s = changed(r, s); r.Intn(10) == 0 {
			s = s[:r.Intn(len(s)+1)]
		}
		at, why = readClasses(s)
		if _, gotAt, got := schema.Parse(s); gotAt != at || got != why {
			t.Fatalf("Parse(%q): %d, %d, want %d, %d", s, gotAt, got, at, why)
		}
		seen[why]++
	}
	for _, why := range []api.Errno{api.OK, api.ErrArg, api.ErrForm, api.ErrShort, api.ErrMore, api.ErrName} {
		if seen[why] == 0 {
			t.Errorf("%d never comes", why)
		}
	}
}
