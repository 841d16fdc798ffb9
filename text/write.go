package text

import (
	"strconv"

	"tenon/api"
	"tenon/value"
)

const digits16 = "0123456789abcdef"

func write(v any, lines bool) (string, api.Errno) {
	if _, e := value.Check(v); e != api.OK {
		return "", e
	}
	w := writer{lines: lines}
	w.value(v)
	return string(w.out), api.OK
}

// writer gathers the text of a value that can be.
type writer struct {
	out   []byte
	lines bool // whether what stands in brackets has lines of its own
	depth int  // how many brackets are open
}

func (w *writer) value(v any) {
	switch x := v.(type) {
	case nil:
		w.add("nil")
	case bool:
		w.out = strconv.AppendBool(w.out, x)
	case int64:
		w.out = strconv.AppendInt(w.out, x, 10)
	case float64:
		w.add(Float(x))
	case string:
		w.out = appendQuoted(w.out, x)
	case []byte:
		w.bytes(x)
	case api.Ref:
		w.add("@")
		w.out = strconv.AppendUint(w.out, uint64(x), 10)
	case api.List:
		w.bracketed("[", "]", len(x), func(i int) { w.value(x[i]) })
	case api.Dict:
		w.fields(x)
	case *api.Record:
		w.add(x.Class + "/" + strconv.Itoa(x.Version))
		w.fields(x.Fields)
	}
}

func (w *writer) add(s string) { w.out = append(w.out, s...) }

func (w *writer) bytes(b []byte) {
	w.add("#")
	for _, c := range b {
		w.out = appendByte(w.out, c)
	}
}

func (w *writer) fields(d api.Dict) {
	w.bracketed("{", "}", len(d), func(i int) {
		w.add(d[i].Name + ": ")
		w.value(d[i].Value)
	})
}

// bracketed writes brackets and n items between them, each by a call of item. All that tells a text from its lines is here.
func (w *writer) bracketed(open, shut string, n int, item func(i int)) {
	comma := ", "
	if w.lines {
		comma = "," // a line feed takes the blank's place
	}
	w.add(open)
	w.depth++
	for i := range n {
		if i > 0 {
			w.add(comma)
		}
		w.newLine()
		item(i)
	}
	w.depth--
	if n > 0 {
		w.newLine()
	}
	w.add(shut)
}

func (w *writer) newLine() {
	if !w.lines {
		return
	}
	w.add("\n")
	for range w.depth {
		w.add("  ")
	}
}

func appendQuoted(out []byte, s string) []byte {
	out = append(out, '"')
	for i := range len(s) {
		out = appendEscaped(out, s[i])
	}
	return append(out, '"')
}

// appendEscaped goes by bytes, not by runes: every byte of a text is told, whether they make up letters or not.
func appendEscaped(out []byte, c byte) []byte {
	switch {
	case c == '"' || c == '\\':
		return append(out, '\\', c)
	case c == '\n':
		return append(out, `\n`...)
	case c == '\t':
		return append(out, `\t`...)
	case c == '\r':
		return append(out, `\r`...)
	case !isPlain(c):
		return appendByte(append(out, `\x`...), c)
	}
	return append(out, c)
}

func appendByte(out []byte, c byte) []byte {
	return append(out, digits16[c>>4], digits16[c&15])
}

// isPlain tells of a byte that stands in a string's text as it is, but for quotes and backslashes.
func isPlain(c byte) bool { return ' ' <= c && c <= '~' }
