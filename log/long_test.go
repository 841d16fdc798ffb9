package log_test

import (
	"fmt"
	"slices"
	"testing"

	"tenon/api"
	"tenon/log"
	"tenon/sample"
)

// of is a frame whose bytes are so many.
func of(size int) api.Frame { return api.Frame{Kind: 1, Body: make([]byte, size-13)} }

// great is the greatest frame.
func great() api.Frame { return of(api.MaxFrame + 13) }

// filling is frames that have just so many bytes.
func filling(size int) []api.Frame {
	var l []api.Frame
	for size >= api.MaxFrame+26 { // so that the last one has room
		l = append(l, great())
		size -= api.MaxFrame + 13
	}
	for ; size > api.MaxFrame+13; size -= 13 {
		l = append(l, of(13))
	}
	return append(l, of(size))
}

// P19.3: so many frames that the file has MaxFile bytes, and one more, in one call.
func TestAppendMost(t *testing.T) {
	d := &sample.Disk{}
	w := opened(t, "none", d)
	more, most := filling(api.MaxFile+1), filling(api.MaxFile)
	mustAsk(t, "one more", d, func() { must(t, "one more", w.Append(more), api.ErrLong) })
	mustSize(t, "one more", w, nil)
	mustAsk(t, "most", d, func() { mustAppend(t, "most", w, most...) }, fmt.Sprint("write log 0 ", api.MaxFile), "sync log")
	if w.Size() != api.MaxFile {
		t.Error(w.Size())
	}
	mustAsk(t, "full", d, func() {
		must(t, "the least", w.Append(frames(of(13))), api.ErrLong)
		must(t, "the greatest", w.Append(frames(great())), api.ErrLong)
		must(t, "most again", w.Append(most), api.ErrLong)
		must(t, "none", w.Append(nil), api.OK)
		must(t, "wrong", w.Append(frames(great(), frame(0, ""))), api.ErrArg)
		must(t, "a body too long", w.Append(frames(of(13), of(api.MaxFrame+14), frame(0, ""))), api.ErrLong)
	})
	w = opened(t, "full", d, most...)
	must(t, "full, anew", w.Append(frames(of(13))), api.ErrLong)
	must(t, "Reset", w.Reset(), api.OK)
	mustAppend(t, "behind Reset", w, most...)
}

// P19.3: likewise, behind other frames, that this Writer put or another one.
func TestAppendMostBehind(t *testing.T) {
	for _, ahead := range []int{13, 14, 1000, api.MaxFrame, api.MaxFile - 40, api.MaxFile - 26, api.MaxFile - 14, api.MaxFile - 13} {
		d := &sample.Disk{}
		w := opened(t, ahead, d)
		mustAppend(t, ahead, w, filling(ahead)...)
		must(t, ahead, w.Append(filling(api.MaxFile-ahead+1)), api.ErrLong)
		v := opened(t, ahead, d.Crashed(0), filling(ahead)...)
		for _, w := range []*log.Writer{w, v} {
			must(t, ahead, w.Append(filling(api.MaxFile-ahead+1)), api.ErrLong)
			must(t, ahead, w.Append(filling(api.MaxFile-ahead)), api.OK)
			if w.Size() != api.MaxFile {
				t.Error(ahead, w.Size())
			}
		}
	}
}

// P19.3: what can't be is told ahead of what is too much, wherever it stands.
func TestAppendWrongAheadOfLong(t *testing.T) {
	w := opened(t, "none", &sample.Disk{})
	l := slices.Repeat(frames(great()), 40)
	must(t, "too much", w.Append(l), api.ErrLong)
	must(t, "too much, and wrong", w.Append(append(l, frame(0, ""))), api.ErrArg)
	must(t, "wrong, and too much", w.Append(append(frames(frame(0, "")), l...)), api.ErrArg)
}

// P19.3: many frames that share one Body are held against the bound ahead of any of their bytes.
func TestAppendManyTimes(t *testing.T) {
	d := &sample.Disk{}
	w := opened(t, "none", d)
	mustAsk(t, "many", d, func() { must(t, "many", w.Append(slices.Repeat(frames(great()), 1<<20)), api.ErrLong) })
	mustAppend(t, "one", w, frame(1, ""))
}

// P19.2: a file that has more than MaxFile bytes is opened, and takes no more.
func TestOpenLong(t *testing.T) {
	l := filling(api.MaxFile + 13)
	d := holding(append(coded(l...), 1, 2, 3))
	var w *log.Writer
	mustAsk(t, "long", d, func() { w = opened(t, "long", d, l...) }, "read log", fmt.Sprint("cut log ", api.MaxFile+13), "sync log")
	mustAsk(t, "long", d, func() {
		must(t, "one", w.Append(frames(frame(1, ""))), api.ErrLong)
		must(t, "none", w.Append(nil), api.ErrLong)
	})
	must(t, "Reset", w.Reset(), api.OK)
	mustAppend(t, "behind Reset", w, frame(1, ""))
}

// P19.1: many frames, each told.
func TestReadMany(t *testing.T) {
	var l []api.Frame
	for i := range 100000 {
		l = append(l, frame(1+i%255, fmt.Sprint(i)))
	}
	b := coded(l...)
	mustRead(t, "many", b, l, len(b), api.OK)
	mustRead(t, "many", b[:len(b)-1], l[:len(l)-1], len(b)-18, api.ErrTorn)
}
