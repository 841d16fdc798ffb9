package schema

import (
	"tenon/api"
	"tenon/names"
	"tenon/scan"
)

func (r *reader) classes() []api.Class {
	var l []api.Class
	for r.SkipBlanks(); !r.AtEnd(); r.SkipBlanks() {
		l = append(l, r.class())
	}
	return l
}

func (r *reader) class() api.Class {
	if !r.takesWord(wordClass) {
		panic(scan.Fault{At: r.At, Why: api.ErrForm})
	}
	var c api.Class
	c.Name, c.Version = r.nameAndVersion()
	if r.Takes(':') {
		c.Parent, c.ParentVersion = r.nameAndVersion()
	}
	c.Abstract = r.takesWord(wordAbstract)
	r.Mark('{')
	ahead := "" // every name is above it
	for !r.Takes('}') {
		f := r.field(len(c.Fields), ahead)
		c.Fields = append(c.Fields, f)
		ahead = f.Name
	}
	return c
}

func (r *reader) nameAndVersion() (string, int) {
	name := r.name()
	r.SkipBlanks()
	return name, r.Version()
}

// field reads the nth field, which comes behind one of the name ahead.
func (r *reader) field(nth int, ahead string) api.FieldOf {
	f := api.FieldOf{Name: r.fieldName(nth, ahead)}
	r.Mark(':')
	f.Type = r.wholeType()
	if r.Takes('=') {
		f.Has, f.Default = true, r.term()
	}
	if r.takesWas() {
		f.Was = r.name()
	}
	for r.Takes(';') {
	}
	return f
}

// fieldName differs from a dict's by the order of errors: whether it is a name at all is asked ahead of how many there are.
func (r *reader) fieldName(nth int, ahead string) string {
	start := r.At
	r.name()
	r.At = start
	return r.FieldName(nth, ahead)
}

// takesWas reads the word was, but where a colon stands behind it: there it is a further field's name.
func (r *reader) takesWas() bool {
	start := r.At
	if !r.takesWord(wordWas) {
		return false
	}
	r.SkipBlanks()
	if r.Stands(':') {
		r.At = start
		return false
	}
	return true
}

// takesWord reads that word, if it comes behind any blanks, whole: whether it does.
func (r *reader) takesWord(word string) bool {
	r.SkipBlanks()
	start := r.At
	if r.Run(names.Byte) != word {
		r.At = start
		return false
	}
	return true
}
