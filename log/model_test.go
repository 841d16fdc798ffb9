package log_test

import (
	"bytes"
	"encoding/binary"
	"math/rand"
	"slices"
	"testing"

	"tenon/api"
	"tenon/log"
	"tenon/sample"
)

// plainly is what Read tells, as plainly as the chapter says it: what the next frame has is made anew, and held against what is there.
func plainly(b []byte) (l []api.Frame, at int, why api.Errno) {
	for {
		rest := b[at:]
		switch {
		case len(rest) == 0:
			return l, at, api.OK
		case rest[0] == 0:
			return l, at, api.ErrArg
		case len(rest) < 5:
			return l, at, api.ErrTorn
		}
		length := int(binary.LittleEndian.Uint32(rest[1:]))
		switch {
		case length > api.MaxFrame:
			return l, at, api.ErrLong
		case len(rest) < 13+length:
			return l, at, api.ErrTorn
		}
		f := api.Frame{Kind: int(rest[0]), Body: rest[5 : 5+length]}
		if !bytes.HasPrefix(rest, coded(f)) {
			return l, at, api.ErrSum
		}
		l = append(l, f)
		at += 13 + length
	}
}

// anyFrames is up to four frames by chance, that can be.
func anyFrames(r *rand.Rand) []api.Frame {
	var l []api.Frame
	for range r.Intn(5) {
		body := make([]byte, r.Intn(20)*r.Intn(20))
		r.Read(body)
		l = append(l, api.Frame{Kind: 1 + r.Intn(255), Body: body})
	}
	return l
}

// anyBytes is frames of which something by chance is spoilt.
func anyBytes(r *rand.Rand) []byte {
	b := coded(anyFrames(r)...)
	for range r.Intn(3) {
		switch n := r.Intn(len(b) + 1); r.Intn(4) {
		case 0:
			b = b[:n]
		case 1:
			b = append(b[:n:n], byte(r.Intn(256)*r.Intn(2)))
		case 2:
			b = append(b, coded(anyFrames(r)...)...)
		case 3:
			if n < len(b) {
				b[n] = byte(r.Intn(256) * r.Intn(2))
			}
		}
	}
	return b
}

// P19.1: whatever bytes it is handed, Read tells what the chapter says.
func TestReadByChance(t *testing.T) {
	r := rand.New(rand.NewSource(19))
	whys := map[api.Errno]int{}
	for range 20000 {
		b := anyBytes(r)
		l, n, why := plainly(b)
		mustRead(t, b, b, l, n, why)
		whys[why]++
	}
	for _, why := range []api.Errno{api.OK, api.ErrTorn, api.ErrArg, api.ErrLong, api.ErrSum} {
		if whys[why] < 50 {
			t.Errorf("%d only %d times", why, whys[why])
		}
	}
}

// life is a Writer, its disk, and what the chapter says of both.
type life struct {
	r      *rand.Rand
	d      *sample.Disk
	w      *log.Writer
	known  []api.Frame // what the Writer knows to stand whole
	fast   []api.Frame // what must stand behind a crash
	failed bool
}

// P19.2, P19.3, P19.6: calls by chance, some of which fail, and crashes between them.
func TestLivesByChance(t *testing.T) {
	for seed := range int64(400) {
		x := &life{r: rand.New(rand.NewSource(seed)), d: &sample.Disk{}}
		x.open(t)
		for range 60 {
			x.step(t)
		}
	}
}

func (x *life) step(t *testing.T) {
	t.Helper()
	x.d.Part, x.d.Spoils = x.r.Intn(100), x.r.Intn(2) == 0
	if x.r.Intn(6) == 0 {
		failures := sample.Failures()
		x.d.Fails = sample.FailsAt(len(x.d.Asked)+x.r.Intn(3), failures[x.r.Intn(len(failures))])
	}
	switch x.r.Intn(8) {
	case 0:
		x.restart(t)
	case 1:
		x.empty(t)
	case 2:
		x.refuse(t)
	default:
		x.append(t)
	}
	x.d.Fails = nil
	mustSize(t, "by chance", x.w, x.known)
}

// restart opens the file anew, behind a crash or not.
func (x *life) restart(t *testing.T) {
	t.Helper()
	x.d.Fails = nil
	if x.r.Intn(2) == 0 {
		x.d = x.d.Crashed(x.r.Intn(x.d.Ways()))
	}
	x.open(t)
}

// open: what stands whole in the file must be told, and be all that must stand, whatever else there is.
func (x *life) open(t *testing.T) {
	t.Helper()
	b, _ := x.d.Now(file)
	want, _, _ := plainly(b)
	x.w = opened(t, "by chance", x.d, want...)
	if len(want) < len(x.fast) || !same(want[:len(x.fast)], x.fast) {
		t.Errorf("Open by chance: %s, though there was %s", told(want), told(x.fast))
	}
	mustHave(t, "Open by chance", x.d, coded(want...))
	x.known, x.failed = want, false
}

func (x *life) append(t *testing.T) {
	t.Helper()
	l := anyFrames(x.r)
	asked := len(x.d.Asked)
	e := x.w.Append(l)
	switch {
	case x.failed:
		must(t, "Append behind a failing", e, api.ErrDisk)
	case e == api.OK:
		x.known = slices.Concat(x.known, l)
		if len(l) > 0 {
			x.fast = x.known
		}
		mustHave(t, "Append by chance", x.d, coded(x.known...))
	default:
		must(t, "Append by chance", e, api.ErrDisk)
		if len(x.d.Asked) == asked {
			t.Error("failed, though nothing was asked")
		}
		x.failed = true
	}
}

func (x *life) empty(t *testing.T) {
	t.Helper()
	e := x.w.Reset()
	switch {
	case x.failed:
		must(t, "Reset behind a failing", e, api.ErrDisk)
	case e == api.OK:
		x.known, x.fast = nil, nil
		mustHave(t, "Reset by chance", x.d, nil)
	default:
		must(t, "Reset by chance", e, api.ErrDisk)
		x.failed, x.fast = true, nil
	}
}

// refuse: what can't be changes nothing, and asks nothing.
func (x *life) refuse(t *testing.T) {
	t.Helper()
	l := append(anyFrames(x.r), frame(256, ""))
	want := api.ErrArg
	if x.failed {
		want = api.ErrDisk
	}
	mustAsk(t, "what can't be", x.d, func() { must(t, "what can't be", x.w.Append(append(l, anyFrames(x.r)...)), want) })
}
