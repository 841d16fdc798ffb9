package log_test

import (
	"bytes"
	"testing"

	"tenon/api"
	"tenon/log"
	"tenon/sample"
)

// Example 1.
func TestExamplePack(t *testing.T) {
	b, e := log.Pack(api.Frame{Kind: 1})
	if len(b) != 13 || !bytes.HasPrefix(b, []byte{1, 0, 0, 0, 0}) || e != api.OK {
		t.Error(b, e)
	}
	mustNotPack(t, frame(0, "whatever"), api.ErrArg)
}

// Example 2.
func TestExampleRead(t *testing.T) {
	b := coded(frame(1, ""))
	mustRead(t, "a frame and its first five bytes", append(b, b[:5]...), frames(frame(1, "")), 13, api.ErrTorn)
}

// Example 3, and example 9 of the whole: opened anew the file is as before it, or as behind it.
func TestExampleSyncFails(t *testing.T) {
	for n := range 3 {
		d := &sample.Disk{}
		w := opened(t, n, d)
		mustAppend(t, n, w, several()[:n]...)
		d.Fails = sample.FailsAt(len(d.Asked)+1, sample.Failures()[1])
		must(t, n, w.Append(several()[n:]), api.ErrDisk)
		for range 3 {
			must(t, n, w.Append(several()), api.ErrDisk)
		}
		w = opened(t, n, d, several()...)
		mustAppend(t, n, w, frame(3, "goes on"))
		opened(t, n, d, append(several(), frame(3, "goes on"))...)
	}
}

// P7: behind a crash, whenever it comes, the frames stand as they stood at an Append, or as far as one under way had come, and none that was told is lost.
func TestCrashAnywhere(t *testing.T) {
	all := several()
	for call := 1; call < 2*len(all)+1; call++ {
		for _, part := range []int{0, 3, 20, 1000} {
			d := &sample.Disk{Part: part}
			d.Fails = sample.FailsAt(call, sample.Failures()[1])
			w := opened(t, call, d)
			fast := 0
			for fast < len(all) && w.Append(all[fast:fast+1]) == api.OK {
				fast++
			}
			if fast != (call-1)/2 {
				t.Errorf("%d: %d", call, fast)
			}
			mustStandBehind(t, []any{call, part}, d, all[:fast], all[fast:min(fast+1, len(all))])
		}
	}
}

// Pack, Read, Append and Open have one form: what one writes the others read.
func TestOneForm(t *testing.T) {
	d := &sample.Disk{}
	w := opened(t, "none", d)
	var all []byte
	for _, f := range several() {
		b, e := log.Pack(f)
		must(t, "Pack", e, api.OK)
		all = append(all, b...)
		mustAppend(t, "Append", w, f)
		mustHave(t, "Append", d, all)
	}
	mustRead(t, "all", all, several(), len(all), api.OK)
	d.Keep("other", all)
	v, l, e := log.Open(d, "other")
	if v.Size() != w.Size() || !same(l, several()) || e != api.OK {
		t.Error(v.Size(), told(l), e)
	}
}
