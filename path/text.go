package path

import (
	"strconv"
	"strings"

	"tenon/api"
	"tenon/names"
)

// wayRule tells whether a way can be.
func wayRule(way []api.Step) api.Errno {
	if len(way) > api.MaxDepth {
		return api.ErrLong
	}
	for _, step := range way {
		if e := stepRule(step); e != api.OK {
			return e
		}
	}
	return api.OK
}

func stepRule(step api.Step) api.Errno {
	nameFits, indexFits := names.Is(step.Name), step.Index == 0
	if step.At {
		nameFits, indexFits = step.Name == "", step.Index >= 0 && step.Index < api.MaxItems
	}
	switch {
	case !nameFits:
		return api.ErrName
	case !indexFits:
		return api.ErrArg
	}
	return api.OK
}

func textOf(way []api.Step) string {
	var b strings.Builder
	for i, step := range way {
		switch {
		case step.At:
			b.WriteString("[" + strconv.Itoa(step.Index) + "]")
		case i == 0:
			b.WriteString(step.Name)
		default:
			b.WriteString("." + step.Name)
		}
	}
	return b.String()
}

// readStep reads the step that begins at a place, with so many steps ahead of it: where the next one begins, or with an error its place.
func readStep(s string, at, ahead int) (api.Step, int, api.Errno) {
	first := at == 0
	switch {
	case !first && s[at] != '.' && s[at] != '[':
		return api.Step{}, at, api.ErrForm
	case ahead >= api.MaxDepth:
		return api.Step{}, at, api.ErrLong
	case s[at] == '[':
		return readIndex(s, at)
	case first:
		return readName(s, at)
	}
	return readName(s, at+1)
}

func readIndex(s string, at int) (api.Step, int, api.Errno) {
	digits := run(s[at+1:], isDigit)
	end := at + 1 + len(digits)
	switch {
	case end == len(s):
		return api.Step{}, end, api.ErrShort
	case digits == "" || len(digits) > 1 && digits[0] == '0' || s[end] != ']':
		return api.Step{}, at, api.ErrForm
	}
	n, err := strconv.Atoi(digits)
	if err != nil || n >= api.MaxItems {
		return api.Step{}, at, api.ErrArg
	}
	return api.Step{At: true, Index: n}, end + 1, api.OK
}

func readName(s string, at int) (api.Step, int, api.Errno) {
	name := run(s[at:], names.Byte)
	switch {
	case at == len(s):
		return api.Step{}, at, api.ErrShort
	case name == "":
		return api.Step{}, at, api.ErrForm
	case !names.Is(name):
		return api.Step{}, at, api.ErrName
	}
	return api.Step{Name: strings.Clone(name)}, at + len(name), api.OK
}

// run is the longest beginning of a text whose bytes are all of a sort.
func run(s string, is func(byte) bool) string {
	n := 0
	for n < len(s) && is(s[n]) {
		n++
	}
	return s[:n]
}

func isDigit(c byte) bool { return '0' <= c && c <= '9' }
