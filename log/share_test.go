package log_test

import (
	"bytes"
	"slices"
	"testing"

	"tenon/api"
	"tenon/log"
	"tenon/sample"
)

// roomy is frames whose bodies, as the list itself, have spare room with marks in it.
func roomy(l []api.Frame) []api.Frame {
	c := make([]api.Frame, 0, len(l)+1)
	for _, f := range l {
		c = append(c, api.Frame{Kind: f.Kind, Body: sample.Roomy(f.Body).([]byte)})
	}
	return append(c, frame(99, "spare room"))[:len(l)]
}

// mustBeKept: frames that roomy made must be as they were, spare room too.
func mustBeKept(t *testing.T, name any, l, want []api.Frame) {
	t.Helper()
	if !same(l, want) || !same(l[len(l):len(l)+1], frames(frame(99, "spare room"))) {
		t.Errorf("%v: %s", name, told(l))
	}
	for i, f := range l {
		if !sample.RoomKept(f.Body) {
			t.Errorf("%v: what is behind body %d was written over", name, i)
		}
	}
}

func spoil(l []api.Frame) {
	for i, f := range l {
		sample.Spoil(f.Body)
		l[i] = frame(-1, "spoilt")
	}
}

// Rule 7: Pack changes nothing of what it is handed, and its answer is nobody else's.
func TestPackApart(t *testing.T) {
	for i, f := range roomy(several()) {
		b, _ := log.Pack(f)
		c, _ := log.Pack(f)
		want := several()[i]
		mustBeKept(t, i, append(frames(f), frame(99, "spare room"))[:1], frames(want))
		sample.Spoil(b)
		if !bytes.Equal(c, coded(want)) {
			t.Errorf("%d: %x", i, c)
		}
		mustBeKept(t, i, append(frames(f), frame(99, "spare room"))[:1], frames(want))
		sample.Spoil(f.Body)
		if !bytes.Equal(c, coded(want)) {
			t.Errorf("%d: %x", i, c)
		}
	}
}

// Rule 7: Read changes nothing of what it is handed, and no Body is another's, or what was handed in.
func TestReadApart(t *testing.T) {
	for _, behind := range [][]byte{nil, {1, 2, 3}, coded(frame(1, "abc"))[:10]} {
		b := sample.Roomy(append(coded(several()...), behind...)).([]byte)
		l, _, _ := log.Read(b)
		other, _, _ := log.Read(b)
		for i, f := range l {
			sample.Spoil(f.Body)
			if !same(l[i+1:], several()[i+1:]) {
				t.Errorf("body %d is another one's, too", i)
			}
		}
		spoil(l)
		if !sample.RoomKept(b) || !bytes.Equal(b, append(coded(several()...), behind...)) || !same(other, several()) {
			t.Errorf("%x: %s", b, told(other))
		}
		sample.Spoil(b)
		if !same(other, several()) {
			t.Error(told(other))
		}
	}
}

// Rule 7: whoever writes into what Open told changes nothing of the disk, and whatever the disk makes of what it told changes nothing of that.
func TestOpenApart(t *testing.T) {
	for _, behind := range [][]byte{nil, {1, 2, 3}} {
		d := holding(append(coded(several()...), behind...))
		d.Spoils = true
		w, l, e := log.Open(d, file)
		must(t, "Open", e, api.OK)
		for _, b := range d.Shared {
			if len(behind) == 0 && !sample.RoomKept(b) {
				t.Error("what is behind what the disk told was written over")
			}
			sample.Spoil(b)
		}
		if !same(l, several()) {
			t.Error(told(l))
		}
		spoil(l)
		mustHave(t, "Open", d, coded(several()...))
		mustAppend(t, "Open", w, frame(1, ""))
		opened(t, "Open", d, append(several(), frame(1, ""))...)
	}
}

// Rule 7: Append changes nothing of what it is handed, and whoever writes into it behind that changes nothing of the file.
func TestAppendApart(t *testing.T) {
	d := &sample.Disk{}
	w := opened(t, "none", d)
	l := roomy(several())
	mustAppend(t, "roomy", w, l...)
	mustBeKept(t, "Append", l, several())
	spoil(l)
	mustAppend(t, "further", w, frame(1, ""))
	opened(t, "anew", d, append(several(), frame(1, ""))...)

	l = append(roomy(several()), frame(0, ""))
	must(t, "wrong", w.Append(l), api.ErrArg)
	if !same(l[:5], several()) {
		t.Error(told(l))
	}
}

// Rule 7: a disk may keep what it was handed: nobody writes into it any more.
func TestDiskKeeps(t *testing.T) {
	d := &sample.Disk{}
	w := opened(t, "none", d)
	var want [][]byte
	for range 2 {
		for i, f := range several() {
			l := slices.Repeat(frames(f), i+1)
			mustAppend(t, i, w, l...)
			want = append(want, coded(l...))
			must(t, i, w.Append(frames(f, frame(0, ""))), api.ErrArg)
			mustAppend(t, i, w)
		}
		must(t, "Reset", w.Reset(), api.OK)
	}
	if !slices.EqualFunc(d.Shared, want, bytes.Equal) {
		t.Errorf("%x, want %x", d.Shared, want)
	}
}

// Rule 7: or write over it, spare room too: what was handed in is not, nor is what is written next another one.
func TestDiskWritesOver(t *testing.T) {
	d := &sample.Disk{Spoils: true}
	w := opened(t, "none", d)
	var all []api.Frame
	for i, f := range several() {
		l := roomy(slices.Repeat(frames(f), i+1))
		mustAppend(t, i, w, l...)
		for _, b := range d.Shared {
			sample.Spoil(b)
		}
		mustBeKept(t, i, l, slices.Repeat(frames(f), i+1))
		all = append(all, l...)
	}
	mustSize(t, "all", w, all)
	mustHave(t, "all", d, coded(all...))
	opened(t, "all", d, all...)
}
