package wire

import (
	"bytes"
	"math"

	"tenon/api"
)

// What stands here is of bytes that were looked at before: nothing in them is wrong, and all that they claim to hold is there.

// made is the next value, in memory of its own.
func (r *reader) made() any {
	switch r.byte() {
	case api.KBool:
		return r.byte() == 1
	case api.KInt:
		return unfolded(r.number())
	case api.KFloat:
		return math.Float64frombits(r.bits())
	case api.KText:
		return string(r.text())
	case api.KBytes:
		return bytes.Clone(r.text())
	case api.KRef:
		return api.Ref(r.number())
	case api.KList:
		l := make(api.List, r.number())
		for i := range l {
			l[i] = r.made()
		}
		return l
	case api.KDict:
		return r.madeFields()
	case api.KRecord:
		class := string(r.text())
		version := int(r.number())
		return &api.Record{Class: class, Version: version, Fields: r.madeFields()}
	}
	return nil
}

func (r *reader) madeFields() api.Dict {
	d := make(api.Dict, r.number())
	for i := range d {
		d[i].Name = string(r.text())
		d[i].Value = r.made()
	}
	return d
}

func (r *reader) text() []byte { return r.take(int(r.number())) }

func (r *reader) bits() uint64 {
	bits := uint64(0)
	for _, c := range r.take(8) {
		bits = bits<<8 | uint64(c)
	}
	return bits
}
