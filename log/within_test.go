package log_test

import (
	"testing"

	"tenon/api"
	"tenon/log"
	"tenon/sample"
)

// meddling is a disk that, as it is asked to change something, first calls somebody.
type meddling struct {
	*sample.Disk
	calls func()
}

func (d *meddling) Write(name string, at int, b []byte) api.Errno {
	d.calls()
	return d.Disk.Write(name, at, b)
}

func (d *meddling) Cut(name string, size int) api.Errno {
	d.calls()
	return d.Disk.Cut(name, size)
}

func (d *meddling) Sync(name string) api.Errno {
	d.calls()
	return d.Disk.Sync(name)
}

// P19.6: a disk that calls the Writer while that asks it something: nothing is written where something else is just being put, and the Writer goes on behind it.
func TestCallsWithin(t *testing.T) {
	d := &meddling{Disk: &sample.Disk{}}
	w := opened(t, "none", d)
	times := 0
	d.calls = func() {
		times++
		size := w.Size()
		must(t, "Append within", w.Append(frames(frame(1, "within"))), api.ErrDisk)
		must(t, "Reset within", w.Reset(), api.ErrDisk)
		must(t, "none within", w.Append(nil), api.ErrDisk)
		if w.Size() != size {
			t.Errorf("Size within: %d, was %d", w.Size(), size)
		}
	}
	all := several()
	mustAppend(t, "first", w, all[:2]...)
	mustAppend(t, "second", w, all[2:]...)
	mustHave(t, "second", d.Disk, coded(all...))
	mustSize(t, "second", w, all)
	must(t, "Reset", w.Reset(), api.OK)
	mustSize(t, "Reset", w, nil)
	mustAppend(t, "third", w, all...)
	mustHave(t, "third", d.Disk, coded(all...))
	if times != 8 {
		t.Error(times)
	}
}

// P19.3: a disk that opens the file while it is written: the two Writers each know what they were told.
func TestOpenWithin(t *testing.T) {
	d := &meddling{Disk: &sample.Disk{}, calls: func() {}}
	w := opened(t, "none", d)
	mustAppend(t, "ahead", w, frame(1, "a"))
	times := 0
	d.calls = func() {
		d.calls = func() {}
		opened(t, "within", d, frame(1, "a"))
		times++
	}
	mustAppend(t, "behind", w, frame(2, "b"))
	opened(t, "behind", d, frame(1, "a"), frame(2, "b"))
	if times != 1 {
		t.Error(times)
	}
}

// The calls of a Writer that nobody opened end, and do not panic.
func TestNobodysWriter(t *testing.T) {
	var w log.Writer
	mustSize(t, "nobody's", &w, nil)
	must(t, "none", w.Append(nil), api.OK)
	must(t, "wrong", w.Append(frames(frame(0, ""))), api.ErrArg)
	must(t, "one", w.Append(frames(frame(1, ""))), api.ErrDisk)
	must(t, "behind that", w.Append(nil), api.ErrDisk)
	var v log.Writer
	must(t, "Reset", v.Reset(), api.ErrDisk)
	must(t, "Reset", v.Reset(), api.ErrDisk)
}
