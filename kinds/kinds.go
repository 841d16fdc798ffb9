// Package kinds holds the words of the kinds of values (chapter 6), so that all layers write and read the same ones.
package kinds

import "tenon/api"

// words is under each kind its word.
var words = [...]string{
	api.KNil:    "nil",
	api.KBool:   "bool",
	api.KInt:    "int",
	api.KFloat:  "float",
	api.KText:   "text",
	api.KBytes:  "bytes",
	api.KRef:    "ref",
	api.KList:   "list",
	api.KDict:   "dict",
	api.KRecord: "record",
}

// Word is a kind's word; empty of what is no kind of values.
func Word(kind int) string {
	if kind < 0 || kind >= len(words) {
		return ""
	}
	return words[kind]
}

// Of is the kind of a word; 0, if that is none's.
func Of(word string) int {
	for kind := api.KNil; kind < len(words); kind++ {
		if words[kind] == word {
			return kind
		}
	}
	return 0
}
