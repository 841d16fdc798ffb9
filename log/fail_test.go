package log_test

import (
	"bytes"
	"slices"
	"testing"

	"tenon/api"
	"tenon/log"
	"tenon/sample"
)

// failing is a disk whose file has that, and whose call of a number fails in a way, from 0 on.
func failing(b []byte, call int, how func() api.Errno) *sample.Disk {
	d := holding(b)
	d.Fails = sample.FailsAt(call, how)
	return d
}

// P19.2: Read fails, be that by an error, or by a panic. ErrIdentity alone tells that there is no file.
func TestOpenReadFails(t *testing.T) {
	for i, how := range sample.Failures() {
		d := failing(coded(several()...), 0, how)
		if i == 0 {
			mustAsk(t, "ErrIdentity", d, func() { opened(t, "ErrIdentity", d) }, "read log")
			continue
		}
		mustAsk(t, i, d, func() { mustNotOpen(t, i, d, file, api.ErrDisk) }, "read log")
		mustHave(t, i, d, coded(several()...))
		opened(t, i, d, several()...) // the next one goes
	}
}

// P19.2: Cut fails, or Sync; what was not come to is not done.
func TestOpenCutFails(t *testing.T) {
	b := append(coded(several()...), 1, 2, 3)
	for i, how := range sample.Failures() {
		d := failing(b, 1, how)
		mustAsk(t, i, d, func() { mustNotOpen(t, i, d, file, api.ErrDisk) }, "read log", "cut log 472")
		mustHave(t, i, d, b)
		mustAsk(t, i, d, func() { opened(t, i, d, several()...) }, "read log", "cut log 472", "sync log")

		d = failing(b, 2, how)
		mustAsk(t, i, d, func() { mustNotOpen(t, i, d, file, api.ErrDisk) }, "read log", "cut log 472", "sync log")
		mustHave(t, i, d, coded(several()...))
		mustAsk(t, i, d, func() { opened(t, i, d, several()...) }, "read log")
	}
}

// telling is a disk whose Read tells bytes beside whatever error.
type telling struct {
	api.Disk
	e api.Errno
}

func (d telling) Read(string) ([]byte, api.Errno) { return coded(several()...), d.e }

// P19.2: bytes beside an error are none; of a file that is none there are no frames.
func TestOpenBytesBesideAnError(t *testing.T) {
	d := &sample.Disk{}
	var w *log.Writer
	mustAsk(t, "ErrIdentity", d, func() { w = opened(t, "ErrIdentity", telling{d, api.ErrIdentity}) })
	mustAsk(t, "ErrIdentity", d, func() { mustAppend(t, "ErrIdentity", w, frame(1, "")) }, "write log 0 13", "sync log")
	mustNotOpen(t, "ErrDisk", telling{d, api.ErrDisk}, file, api.ErrDisk)
	opened(t, "OK", telling{d, api.OK}, several()...)
}

// P19.3: Write fails, having written some beginning; or Sync. Open goes on behind what stands whole.
func TestAppendFails(t *testing.T) {
	ahead, l := several()[:2], several()[2:4]
	for i, how := range sample.Failures() {
		for _, part := range []int{0, 1, 15, 16, 17, 300, 1000} {
			d := failing(coded(ahead...), 1, how)
			d.Part = part
			w := opened(t, i, d, ahead...)
			mustAsk(t, i, d, func() { must(t, i, w.Append(l), api.ErrDisk) }, "write log 30 429")
			mustSize(t, i, w, ahead)
			mustBeFailed(t, i, d, w)
			b, _ := d.Now(file)
			if want := coded(append(ahead[:2:2], l...)...); !bytes.Equal(b, want[:min(len(want), 30+part)]) {
				t.Errorf("%d: %x", i, b)
			}
			stood, at, _ := plainly(b)
			w = opened(t, i, d, stood...)
			mustHave(t, i, d, b[:at])
			mustAppend(t, i, w, frame(1, "further"))
			opened(t, i, d, append(stood, frame(1, "further"))...)
		}
	}
}

// P19.3: likewise, of Sync.
func TestAppendSyncFails(t *testing.T) {
	ahead, l := several()[:2], several()[2:4]
	for i, how := range sample.Failures() {
		d := failing(coded(ahead...), 2, how)
		w := opened(t, i, d, ahead...)
		mustAsk(t, i, d, func() { must(t, i, w.Append(l), api.ErrDisk) }, "write log 30 429", "sync log")
		mustSize(t, i, w, ahead)
		mustBeFailed(t, i, d, w)
		opened(t, i, d, several()[:4]...)
	}
}

// P19.3: Reset fails: the Writer has failed, and knows what it knew.
func TestResetFails(t *testing.T) {
	for i, how := range sample.Failures() {
		d := failing(coded(several()...), 1, how)
		w := opened(t, i, d, several()...)
		mustAsk(t, i, d, func() { must(t, i, w.Reset(), api.ErrDisk) }, "cut log 0")
		mustSize(t, i, w, several())
		mustBeFailed(t, i, d, w)
		mustHave(t, i, d, coded(several()...))
		must(t, i, opened(t, i, d, several()...).Reset(), api.OK)

		d = failing(coded(several()...), 2, how)
		w = opened(t, i, d, several()...)
		mustAsk(t, i, d, func() { must(t, i, w.Reset(), api.ErrDisk) }, "cut log 0", "sync log")
		mustSize(t, i, w, several())
		mustBeFailed(t, i, d, w)
		mustHave(t, i, d, nil)
		opened(t, i, d)
	}
}

// P19.3: of a Writer that is empty, too.
func TestFirstCallFails(t *testing.T) {
	for i, how := range sample.Failures() {
		for call, want := range []api.Errno{api.ErrDisk, api.ErrDisk, api.OK} {
			d := &sample.Disk{Fails: sample.FailsAt(call+1, how)}
			w := opened(t, i, d)
			must(t, i, w.Append(several()), want)
			d = &sample.Disk{Fails: sample.FailsAt(call+1, how)}
			w = opened(t, i, d)
			must(t, i, w.Reset(), want)
			if want != api.OK {
				mustSize(t, i, w, nil)
				mustBeFailed(t, i, d, w)
			}
		}
	}
}

// P19.3: a call that can't be is no failing, nor is one that asks nothing.
func TestWrongIsNoFailing(t *testing.T) {
	d := failing(nil, 1, sample.Failures()[1])
	w := opened(t, "wrong", d)
	must(t, "a wrong kind", w.Append(frames(frame(1, "a"), frame(0, ""))), api.ErrArg)
	must(t, "too long", w.Append(frames(api.Frame{Kind: 1, Body: make([]byte, api.MaxFrame+1)})), api.ErrLong)
	must(t, "too many", w.Append(slices.Repeat(frames(api.Frame{Kind: 1, Body: make([]byte, api.MaxFrame)}), 17)), api.ErrLong)
	must(t, "none", w.Append(nil), api.OK)
	must(t, "the first that asks", w.Append(frames(frame(1, "a"))), api.ErrDisk)
	mustBeFailed(t, "behind it", d, w)
}
