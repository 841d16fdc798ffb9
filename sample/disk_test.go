package sample_test

import (
	"slices"
	"testing"

	"tenon/api"
	"tenon/sample"
)

// left is what crashes may leave of a file, as texts; - is a file that is gone.
func left(d *sample.Disk) []string {
	var l []string
	for way := range d.Ways() {
		b, is := d.Crashed(way).Now("f")
		if !is {
			b = []byte("-")
		}
		l = append(l, string(b))
	}
	return l
}

func mustLeave(t *testing.T, name string, d *sample.Disk, want ...string) {
	t.Helper()
	if l := left(d); !slices.Equal(l, want) {
		t.Errorf("%s: %q, want %q", name, l, want)
	}
}

// What a crash leaves, as chapter 21 has it: of what was only made longer each beginning; else what it was or is.
func TestDiskCrashes(t *testing.T) {
	d := &sample.Disk{}
	mustLeave(t, "none", d, "-")
	d.Write("f", 0, []byte("ab"))
	mustLeave(t, "written", d, "-", "", "a", "ab")
	d.Sync("f")
	mustLeave(t, "synced", d, "ab")
	d.Write("f", 2, []byte("cd"))
	mustLeave(t, "longer", d, "ab", "abc", "abcd")
	d.Write("f", 1, []byte("x"))
	mustLeave(t, "written over", d, "ab", "axcd")
	d.Sync("f")
	d.Cut("f", 1)
	mustLeave(t, "cut", d, "axcd", "a")
	d.Write("f", 1, []byte("yz"))
	mustLeave(t, "cut and longer", d, "axcd", "ayz")
	d.Write("f", 2, []byte("123"))
	mustLeave(t, "beyond the end", d, "axcd", "ay123")
	d.Drop("f")
	mustLeave(t, "dropped", d, "-")
	d.Write("f", 0, []byte("a"))
	mustLeave(t, "anew", d, "-", "", "a")
	d.Cut("f", 0)
	mustLeave(t, "anew and cut", d, "-", "", "")
}

// A call that fails does nothing, but Write, which may have written a beginning.
func TestDiskFails(t *testing.T) {
	d := &sample.Disk{}
	d.Keep("f", []byte("ab"))
	d.Fails = func(int) func() api.Errno { return sample.Failures()[1] }
	if b, e := d.Read("f"); b != nil || e != api.ErrDisk {
		t.Error(b, e)
	}
	for i, e := range []api.Errno{d.Cut("f", 0), d.Sync("f"), d.Drop("f"), d.Write("f", 2, []byte("cd"))} {
		if e != api.ErrDisk {
			t.Error(i, e)
		}
	}
	mustLeave(t, "failed", d, "ab")
	d.Part = 1
	d.Write("f", 2, []byte("cd"))
	mustLeave(t, "a part", d, "ab", "abc")
	want := []string{"read f", "cut f 0", "sync f", "drop f", "write f 2 2", "write f 2 2"}
	if !slices.Equal(d.Asked, want) {
		t.Errorf("%q", d.Asked)
	}
}

// Of several files each stands as it may, whatever the others do.
func TestDiskFiles(t *testing.T) {
	d := &sample.Disk{}
	d.Keep("e", []byte("e"))
	d.Write("f", 0, []byte("a"))
	d.Write("g", 0, []byte("bc"))
	if d.Ways() != 3*4 {
		t.Error(d.Ways())
	}
	mustLeave(t, "several", d, "-", "", "a", "-", "", "a", "-", "", "a", "-", "", "a")
	if b, is := d.Crashed(11).Now("g"); string(b) != "bc" || !is {
		t.Error(b, is)
	}
	if b, is := d.Crashed(0).Now("e"); string(b) != "e" || !is {
		t.Error(b, is)
	}
}
