package log_test

import (
	"bytes"
	"encoding/binary"
	"hash/fnv"
	"slices"
	"strconv"
	"strings"
	"testing"

	"tenon/api"
	"tenon/log"
	"tenon/sample"
)

// file is the name of the tests' file.
const file = "log"

func must(t *testing.T, name any, e, want api.Errno) {
	t.Helper()
	if e != want {
		t.Errorf("%v: %d, want %d", name, e, want)
	}
}

func frame(kind int, body string) api.Frame { return api.Frame{Kind: kind, Body: []byte(body)} }

func frames(l ...api.Frame) []api.Frame { return l }

// several is some frames that differ in all that frames can.
func several() []api.Frame {
	return frames(frame(1, ""), frame(255, "body"), frame(7, "\x00\x01\x00"), frame(1, strings.Repeat("long", 100)), api.Frame{Kind: 2})
}

// coded is the bytes of frames that can be, as Go's own library makes them.
func coded(l ...api.Frame) []byte {
	all := []byte{}
	for _, f := range l {
		b := binary.LittleEndian.AppendUint32([]byte{byte(f.Kind)}, uint32(len(f.Body)))
		b = append(b, f.Body...)
		h := fnv.New64a()
		h.Write(b)
		all = append(all, binary.LittleEndian.AppendUint64(b, h.Sum64())...)
	}
	return all
}

func same(a, b []api.Frame) bool {
	return slices.EqualFunc(a, b, func(a, b api.Frame) bool { return a.Kind == b.Kind && bytes.Equal(a.Body, b.Body) })
}

// told is frames as they are read in what a test tells.
func told(l []api.Frame) string {
	s := strconv.Itoa(len(l)) + " frames"
	for _, f := range l[:min(len(l), 10)] {
		s += ", " + strconv.Itoa(f.Kind) + " " + strconv.Quote(string(f.Body[:min(len(f.Body), 20)])) + " of " + strconv.Itoa(len(f.Body))
	}
	return s
}

// mustRead is what Read must tell.
func mustRead(t *testing.T, name any, b []byte, want []api.Frame, at int, why api.Errno) {
	t.Helper()
	if l, n, e := log.Read(b); !same(l, want) || n != at || e != why {
		t.Errorf("Read %v: %s, %d bytes, %d, want %s, %d bytes, %d", name, told(l), n, e, told(want), at, why)
	}
}

// holding is a disk whose file has just that.
func holding(b []byte) *sample.Disk {
	d := &sample.Disk{}
	d.Keep(file, b)
	return d
}

// opened is a Writer of a disk's file; Open must go, and tell those frames.
func opened(t *testing.T, name any, d api.Disk, want ...api.Frame) *log.Writer {
	t.Helper()
	w, l, e := log.Open(d, file)
	if w == nil || e != api.OK {
		t.Fatalf("Open %v: %d", name, e)
	}
	if !same(l, want) {
		t.Errorf("Open %v: %s, want %s", name, told(l), told(want))
	}
	mustSize(t, name, w, want)
	return w
}

// mustNotOpen is an Open that must not go.
func mustNotOpen(t *testing.T, name any, d api.Disk, file string, want api.Errno) {
	t.Helper()
	if w, l, e := log.Open(d, file); w != nil || len(l) != 0 || e != want {
		t.Errorf("Open %v: %v, %s, %d, want %d", name, w, told(l), e, want)
	}
}

// mustSize: the Writer must know just those frames to stand whole.
func mustSize(t *testing.T, name any, w *log.Writer, want []api.Frame) {
	t.Helper()
	if n := w.Size(); n != len(coded(want...)) {
		t.Errorf("Size %v: %d, want %d", name, n, len(coded(want...)))
	}
}

func mustAppend(t *testing.T, name any, w *log.Writer, l ...api.Frame) {
	t.Helper()
	must(t, name, w.Append(l), api.OK)
}

// mustHave: the disk's file must have just that.
func mustHave(t *testing.T, name any, d *sample.Disk, want []byte) {
	t.Helper()
	if b, _ := d.Now(file); !bytes.Equal(b, want) {
		t.Errorf("%v: the file has %d bytes, %x, want %d, %x", name, len(b), b[:min(len(b), 100)], len(want), want[:min(len(want), 100)])
	}
}

// mustAsk makes a call, that must ask the disk just that.
func mustAsk(t *testing.T, name any, d *sample.Disk, call func(), want ...string) {
	t.Helper()
	ahead := len(d.Asked)
	call()
	if asked := d.Asked[ahead:]; !slices.Equal(asked, want) {
		t.Errorf("%v: the disk was asked %q, want %q", name, asked, want)
	}
}

// mustBeFailed: nothing is done any more by a Writer that failed, nor told anew by it.
func mustBeFailed(t *testing.T, name any, d *sample.Disk, w *log.Writer) {
	t.Helper()
	size := w.Size()
	ahead, _ := d.Now(file)
	mustAsk(t, name, d, func() {
		for i, l := range [][]api.Frame{nil, {}, several(), {{Kind: 0}}, {{Kind: 1, Body: make([]byte, api.MaxFrame+1)}}} {
			must(t, []any{name, "Append of a failed Writer", i}, w.Append(l), api.ErrDisk)
		}
		must(t, []any{name, "Reset of a failed Writer"}, w.Reset(), api.ErrDisk)
	})
	mustHave(t, name, d, ahead)
	if w.Size() != size {
		t.Errorf("%v: Size of a failed Writer: %d, was %d", name, w.Size(), size)
	}
}
