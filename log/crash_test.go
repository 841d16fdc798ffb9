package log_test

import (
	"testing"

	"tenon/api"
	"tenon/sample"
)

// mustStandBehind: whatever a crash leaves of a disk, Open must tell the frames that were told OK and, of those that were under way, a beginning; and go on behind them.
func mustStandBehind(t *testing.T, name any, d *sample.Disk, fast, underWay []api.Frame) {
	t.Helper()
	all := append(fast[:len(fast):len(fast)], underWay...)
	for way := range d.Ways() {
		left := d.Crashed(way)
		b, _ := left.Now(file)
		want, _, _ := plainly(b)
		if len(want) < len(fast) || len(want) > len(all) || !same(want, all[:len(want)]) {
			t.Errorf("%v, %d: %s, want %s, perhaps %s", name, way, told(want), told(fast), told(underWay))
		}
		w := opened(t, []any{name, way}, left, want...)
		mustAppend(t, []any{name, way}, w, frame(1, "further"))
		opened(t, []any{name, way}, left.Crashed(0), append(want, frame(1, "further"))...)
	}
}

// P19.6: a crash in an Append, of which each beginning may be kept.
func TestCrashInAppend(t *testing.T) {
	all := several()
	for _, how := range sample.Failures()[:2] {
		for n := range len(all) {
			for _, part := range []int{0, 1, 20, 1000} {
				d := &sample.Disk{}
				w := opened(t, n, d)
				mustAppend(t, n, w, all[:n]...)
				d.Fails, d.Part = sample.FailsAt(len(d.Asked), how), part
				must(t, n, w.Append(all[n:]), api.ErrDisk)
				mustStandBehind(t, []any{"Write", n, part}, d, all[:n], all[n:])
			}
		}
	}
}

// P19.6: a crash between Write and Sync.
func TestCrashAheadOfSync(t *testing.T) {
	all := several()
	for n := range len(all) {
		d := &sample.Disk{}
		w := opened(t, n, d)
		mustAppend(t, n, w, all[:n]...)
		d.Fails = sample.FailsAt(len(d.Asked)+1, sample.Failures()[1])
		must(t, n, w.Append(all[n:]), api.ErrDisk)
		mustStandBehind(t, n, d, all[:n], all[n:])
	}
}

// P19.6: a crash behind an Append, and one in the Open behind a crash.
func TestCrashInOpen(t *testing.T) {
	all := several()
	b := coded(all...)
	for n := range len(b) + 1 {
		want, at, _ := plainly(b[:n])
		for call := 1; call <= 2 && at < n; call++ {
			d := failing(b[:n], call, sample.Failures()[1])
			mustNotOpen(t, n, d, file, api.ErrDisk)
			mustStandBehind(t, n, d, want, nil)
		}
		d := holding(b[:n])
		mustAppend(t, n, opened(t, n, d, want...), frame(9, "a"))
		mustStandBehind(t, n, d, append(want, frame(9, "a")), nil)
	}
}

// P19.6: what an Append that failed left, and Open told, stands once a further one answered OK.
func TestCrashBehindGoingOn(t *testing.T) {
	all := several()
	d := &sample.Disk{}
	mustAppend(t, "first", opened(t, "none", d), all[0])
	d.Fails = sample.FailsAt(len(d.Asked)+2, sample.Failures()[1]) // Read, Write, Sync
	must(t, "second", opened(t, "first", d, all[0]).Append(all[1:3]), api.ErrDisk)
	mustStandBehind(t, "second", d, all[:1], all[1:3])
	mustAppend(t, "third", opened(t, "second", d, all[:3]...), all[3])
	mustStandBehind(t, "third", d, all[:4], nil)
}

// P19.6: a crash in a Reset leaves all or nothing; behind it what is appended stands.
func TestCrashInReset(t *testing.T) {
	all := several()
	for call := range 2 {
		d := &sample.Disk{}
		w := opened(t, call, d)
		mustAppend(t, call, w, all...)
		d.Fails = sample.FailsAt(len(d.Asked)+call, sample.Failures()[1])
		must(t, call, w.Reset(), api.ErrDisk)
		for way := range d.Ways() {
			left := d.Crashed(way)
			b, _ := left.Now(file)
			want, _, _ := plainly(b)
			if len(want) != 0 && !same(want, all) {
				t.Errorf("%d, %d: %s", call, way, told(want))
			}
			opened(t, way, left, want...)
		}
	}
	d := &sample.Disk{}
	w := opened(t, "Reset", d)
	mustAppend(t, "ahead", w, all...)
	must(t, "Reset", w.Reset(), api.OK)
	mustStandBehind(t, "Reset", d, nil, nil)
	mustAppend(t, "behind", w, all[1])
	mustStandBehind(t, "behind", d, all[1:2], nil)
}
