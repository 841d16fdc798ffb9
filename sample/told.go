package sample

import (
	"strconv"

	"tenon/api"
	"tenon/text"
)

// Told is a value as it is read in what a test tells: its text, if that is not too long, or why it has none.
func Told(v any) string {
	if r, ok := v.(*api.Record); ok && r == nil {
		return "none"
	}
	s, e := text.Print(v)
	if e != api.OK {
		return "error " + strconv.Itoa(int(e))
	}
	if len(s) > 200 {
		s = s[:100] + " .. " + s[len(s)-100:]
	}
	return s
}
