package log_test

import (
	"testing"

	"tenon/api"
	"tenon/log"
	"tenon/sample"
)

// P19.2: where there is no file there are no frames, and nothing is done.
func TestOpenNone(t *testing.T) {
	d := &sample.Disk{}
	var w *log.Writer
	mustAsk(t, "none", d, func() { w = opened(t, "none", d) }, "read log")
	if _, is := d.Now(file); is {
		t.Error("Open made a file")
	}
	mustAsk(t, "none", d, func() { mustAppend(t, "the first", w, frame(1, "a")) }, "write log 0 14", "sync log")
	mustHave(t, "the first", d, coded(frame(1, "a")))
}

// P19.2: of a file that is whole its frames are told, and nothing is done.
func TestOpenWhole(t *testing.T) {
	all := several()
	for n := range len(all) + 1 {
		d := holding(coded(all[:n]...))
		mustAsk(t, n, d, func() { opened(t, n, d, all[:n]...) }, "read log")
		mustHave(t, n, d, coded(all[:n]...))
	}
}

// P19.2: of a file that is more than that the rest is cut off, and that synced, whatever the rest is.
func TestOpenMore(t *testing.T) {
	for _, x := range whyNot() {
		for n := range 3 {
			ahead := several()[:n]
			d := holding(append(coded(ahead...), x.b...))
			name := []any{x.name, "behind", n}
			var w *log.Writer
			mustAsk(t, name, d, func() { w = opened(t, name, d, ahead...) }, "read log", []string{"cut log 0", "cut log 13", "cut log 30"}[n], "sync log")
			mustHave(t, name, d, coded(ahead...))
			mustAsk(t, name, d, func() { opened(t, name, d, ahead...) }, "read log")
			if d.Ways() != 1 {
				t.Errorf("%v: what was cut does not stand fast", name)
			}
			mustAppend(t, name, w, frame(9, "behind"))
			mustHave(t, name, d, coded(append(ahead, frame(9, "behind"))...))
		}
	}
}

// P19.2: each beginning of a file's bytes, as a crash may leave it.
func TestOpenBeginnings(t *testing.T) {
	b := coded(several()...)
	for n := range len(b) + 1 {
		want, at, _ := plainly(b[:n])
		d := holding(b[:n])
		opened(t, n, d, want...)
		mustHave(t, n, d, b[:at])
	}
}

// P19.2: files of other names are nobody's affair.
func TestOpenOthers(t *testing.T) {
	d := holding(coded(frame(1, "a")))
	for _, name := range []string{"log0", "logs", "lo", "l"} {
		d.Keep(name, []byte{0, 1, 2})
	}
	w := opened(t, "others", d, frame(1, "a"))
	mustAppend(t, "others", w, frame(2, "b"))
	must(t, "others", w.Reset(), api.OK)
	for _, name := range []string{"log0", "logs", "lo", "l"} {
		if b, is := d.Now(name); string(b) != "\x00\x01\x02" || !is {
			t.Errorf("%s: %x, %v", name, b, is)
		}
	}
	w, l, e := log.Open(d, "logs")
	if w == nil || len(l) != 0 || e != api.OK {
		t.Error(l, e)
	}
	if b, is := d.Now("logs"); len(b) != 0 || !is {
		t.Errorf("logs: %x, %v", b, is)
	}
}

// P19.2: no disk, whatever the name; nothing of a disk is asked by a name that is none.
func TestOpenWrong(t *testing.T) {
	for _, name := range append(sample.GoodNames(), sample.BadNames()...) {
		mustNotOpen(t, name, nil, name, api.ErrNil)
	}
	d := &sample.Disk{Fails: func(int) func() api.Errno { return sample.Failures()[1] }}
	for _, name := range sample.BadNames() {
		mustAsk(t, name, d, func() { mustNotOpen(t, name, d, name, api.ErrName) })
		mustNotOpen(t, name, (*sample.Disk)(nil), name, api.ErrName)
	}
}

// P19.2: each name that is one is asked of the disk as it is.
func TestOpenNames(t *testing.T) {
	for _, name := range sample.GoodNames() {
		d := &sample.Disk{}
		mustAsk(t, name, d, func() {
			w, l, e := log.Open(d, name)
			if w == nil || len(l) != 0 || e != api.OK {
				t.Fatalf("Open of %s: %v, %d", name, l, e)
			}
			must(t, name, w.Append(frames(frame(1, "a"))), api.OK)
			must(t, name, w.Reset(), api.OK)
		}, "read "+name, "write "+name+" 0 14", "sync "+name, "cut "+name+" 0", "sync "+name)
	}
}

// P19.2: a disk that is none of its own, or a nil one behind the interface, fails as its calls panic.
func TestOpenNilDisks(t *testing.T) {
	mustNotOpen(t, "a nil pointer", (*sample.Disk)(nil), file, api.ErrDisk)
	mustNotOpen(t, "a disk around none", struct{ api.Disk }{}, file, api.ErrDisk)
	mustNotOpen(t, "a nil disk around none", (*struct{ api.Disk })(nil), file, api.ErrDisk)
}
