package log_test

import (
	"math"
	"testing"

	"tenon/api"
	"tenon/sample"
)

// P19.3: all frames of a call are written with one Write, behind the others, and synced.
func TestAppend(t *testing.T) {
	d := &sample.Disk{}
	w := opened(t, "none", d)
	all := several()
	mustAsk(t, "two", d, func() { mustAppend(t, "two", w, all[:2]...) }, "write log 0 30", "sync log")
	mustHave(t, "two", d, coded(all[:2]...))
	mustSize(t, "two", w, all[:2])
	mustAsk(t, "one", d, func() { mustAppend(t, "one", w, all[2]) }, "write log 30 16", "sync log")
	mustSize(t, "one", w, all[:3])
	mustAsk(t, "the rest", d, func() { mustAppend(t, "the rest", w, all[3:]...) }, "write log 46 426", "sync log")
	mustSize(t, "the rest", w, all)
	mustHave(t, "the rest", d, coded(all...))
	if d.Ways() != 1 {
		t.Error("what was appended does not stand fast")
	}
	opened(t, "anew", d, all...)
}

// P19.3: behind frames that Open told.
func TestAppendBehind(t *testing.T) {
	all := several()
	for n := range len(all) + 1 {
		d := holding(coded(all[:n]...))
		w := opened(t, n, d, all[:n]...)
		mustAppend(t, n, w, all...)
		want := append(all[:n:n], all...)
		mustSize(t, n, w, want)
		mustHave(t, n, d, coded(want...))
		opened(t, n, d, want...)
	}
}

// P19.3: with no frames nothing is asked of the disk.
func TestAppendNone(t *testing.T) {
	for _, d := range []*sample.Disk{{}, holding(nil), holding(coded(several()...))} {
		b, was := d.Now(file)
		w := opened(t, "none", d, func() []api.Frame { l, _, _ := plainly(b); return l }()...)
		size := w.Size()
		mustAsk(t, "none", d, func() {
			mustAppend(t, "nil", w)
			must(t, "none", w.Append([]api.Frame{}), api.OK)
			must(t, "none of some", w.Append(several()[:0]), api.OK)
		})
		mustHave(t, "none", d, b)
		if _, is := d.Now(file); is != was || w.Size() != size {
			t.Error(is, w.Size())
		}
	}
}

// P19.3: Pack's error of the first that has one; nothing is written, and the Writer goes on.
func TestAppendWrong(t *testing.T) {
	long := api.Frame{Kind: 1, Body: make([]byte, api.MaxFrame+1)}
	longAndWrong := api.Frame{Kind: 0, Body: long.Body}
	good := frame(1, "good")
	d := holding(coded(good))
	w := opened(t, "wrong", d, good)
	for i, x := range []struct {
		l    []api.Frame
		want api.Errno
	}{
		{frames(frame(0, "")), api.ErrArg},
		{frames(frame(256, "")), api.ErrArg},
		{frames(frame(-1, "")), api.ErrArg},
		{frames(frame(math.MinInt, ""), frame(1, "")), api.ErrArg},
		{frames(longAndWrong), api.ErrArg},
		{frames(long), api.ErrLong},
		{frames(good, good, frame(300, "")), api.ErrArg},
		{frames(good, frame(300, ""), good), api.ErrArg},
		{frames(frame(300, ""), good, good), api.ErrArg},
		{frames(good, good, long), api.ErrLong},
		{frames(good, long, frame(0, "")), api.ErrLong},
		{frames(good, frame(0, ""), long), api.ErrArg},
		{frames(long, longAndWrong), api.ErrLong},
	} {
		mustAsk(t, i, d, func() { must(t, i, w.Append(x.l), x.want) })
		mustSize(t, i, w, frames(good))
		mustHave(t, i, d, coded(good))
	}
	mustAppend(t, "behind what can't be", w, several()...)
	opened(t, "anew", d, append(frames(good), several()...)...)
}

// P19.3: Reset cuts the file to nothing and syncs it; what is appended behind it is the first.
func TestReset(t *testing.T) {
	all := several()
	d := holding(coded(all...))
	w := opened(t, "Reset", d, all...)
	for range 2 {
		mustAsk(t, "Reset", d, func() { must(t, "Reset", w.Reset(), api.OK) }, "cut log 0", "sync log")
		mustSize(t, "Reset", w, nil)
		mustHave(t, "Reset", d, nil)
		if d.Ways() != 1 {
			t.Error("what was reset does not stand fast")
		}
		opened(t, "Reset", d)
		mustAsk(t, "behind Reset", d, func() { mustAppend(t, "behind Reset", w, all[1:3]...) }, "write log 0 33", "sync log")
		mustSize(t, "behind Reset", w, all[1:3])
		mustHave(t, "behind Reset", d, coded(all[1:3]...))
		opened(t, "behind Reset", d, all[1:3]...)
	}
}

// P19.3: of an empty file, and of none, too.
func TestResetEmpty(t *testing.T) {
	for name, d := range map[string]*sample.Disk{"none": {}, "empty": holding(nil)} {
		_, was := d.Now(file)
		w := opened(t, name, d)
		for range 2 {
			mustAsk(t, name, d, func() { must(t, name, w.Reset(), api.OK) }, "cut log 0", "sync log")
			mustSize(t, name, w, nil)
		}
		if _, is := d.Now(file); is != was {
			t.Errorf("%s: the file is there: %v", name, is)
		}
		mustAppend(t, name, w, several()...)
		opened(t, name, d, several()...)
	}
}

// P19.3: two Writers of two files know nothing of one another.
func TestTwoWriters(t *testing.T) {
	d, other := &sample.Disk{}, &sample.Disk{}
	v, w := opened(t, "one", d), opened(t, "other", other)
	mustAppend(t, "one", v, several()...)
	mustSize(t, "other", w, nil)
	d.Fails = func(int) func() api.Errno { return sample.Failures()[0] }
	must(t, "one", v.Append(several()), api.ErrDisk)
	mustAppend(t, "other", w, frame(1, "x"))
	mustBeFailed(t, "one", d, v)
	must(t, "other", w.Reset(), api.OK)
	mustSize(t, "one", v, several())
	mustSize(t, "other", w, nil)
}
