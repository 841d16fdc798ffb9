package sample

import (
	"bytes"
	"maps"
	"slices"
	"strconv"

	"tenon/api"
)

// Disk is a disk in memory. It fails where it is told to, and tells what it was asked, and what a crash may leave of it.
type Disk struct {
	Asked  []string                        // what it was asked, in its order: "write log 13 8" is eight bytes of log, from 13 on
	Fails  func(call int) func() api.Errno // what the call of that number, from 0 on, does instead of what it was asked; nil: nothing else
	Part   int                             // how many bytes a Write that fails has written, at most
	Spoils bool                            // it writes over what it told and was handed as soon as it is asked the next time
	Shared [][]byte                        // what it told and was handed, itself
	files  map[string]*diskFile
}

// diskFile is a file: its bytes; those that stand fast, if it was synced at all; and whether it was only made longer since.
type diskFile struct {
	now, fast      []byte
	synced, longer bool
}

// Keep has a file that stands fast, whatever there was.
func (d *Disk) Keep(name string, b []byte) { d.set(name, fastFile(b)) }

func (d *Disk) set(name string, f *diskFile) {
	if d.files == nil {
		d.files = map[string]*diskFile{}
	}
	d.files[name] = f
}

func fastFile(b []byte) *diskFile {
	return &diskFile{now: bytes.Clone(b), fast: bytes.Clone(b), synced: true, longer: true}
}

// Now is what a file has, and whether there is one; that is not among what the disk was asked.
func (d *Disk) Now(name string) ([]byte, bool) {
	f := d.files[name]
	if f == nil {
		return nil, false
	}
	return bytes.Clone(f.now), true
}

// asked takes down what the disk is asked, and tells what it does instead.
func (d *Disk) asked(what, name string, numbers ...int) func() api.Errno {
	if d.Spoils {
		for _, b := range d.Shared {
			Spoil(b)
		}
	}
	what += " " + name
	for _, n := range numbers {
		what += " " + strconv.Itoa(n)
	}
	d.Asked = append(d.Asked, what)
	if d.Fails == nil {
		return nil
	}
	return d.Fails(len(d.Asked) - 1)
}

// Read is a file's bytes; marks stand in the spare room behind them.
func (d *Disk) Read(name string) ([]byte, api.Errno) {
	if fails := d.asked("read", name); fails != nil {
		return nil, fails()
	}
	f := d.files[name]
	if f == nil {
		return nil, api.ErrIdentity
	}
	b := Roomy(f.now).([]byte)
	d.Shared = append(d.Shared, b)
	return b, api.OK
}

// Write puts bytes at a place of a file.
func (d *Disk) Write(name string, at int, b []byte) api.Errno {
	fails := d.asked("write", name, at, len(b))
	part := len(b)
	if fails != nil {
		part = min(part, d.Part)
	}
	if fails == nil || part > 0 {
		d.put(name, at, b[:part])
	}
	d.Shared = append(d.Shared, b)
	if fails != nil {
		return fails()
	}
	return api.OK
}

func (d *Disk) put(name string, at int, b []byte) {
	f := d.files[name]
	if f == nil {
		f = &diskFile{longer: true}
		d.set(name, f)
	}
	f.longer = f.longer && at == len(f.now)
	f.now = slices.Concat(f.now[:at], b, f.now[min(at+len(b), len(f.now)):])
}

// Cut shortens a file.
func (d *Disk) Cut(name string, size int) api.Errno {
	if fails := d.asked("cut", name, size); fails != nil {
		return fails()
	}
	f := d.files[name]
	if f == nil && size == 0 {
		return api.OK
	}
	f.longer = f.longer && size == len(f.now)
	f.now = bytes.Clone(f.now[:size:len(f.now)])
	return api.OK
}

// Sync lets a file stand fast.
func (d *Disk) Sync(name string) api.Errno {
	if fails := d.asked("sync", name); fails != nil {
		return fails()
	}
	if f := d.files[name]; f != nil {
		d.Keep(name, f.now)
	}
	return api.OK
}

// Drop takes a file away.
func (d *Disk) Drop(name string) api.Errno {
	if fails := d.asked("drop", name); fails != nil {
		return fails()
	}
	delete(d.files, name)
	return api.OK
}

// Ways is how many different disks a crash may leave.
func (d *Disk) Ways() int {
	n := 1
	for _, f := range d.files {
		n *= f.ways()
	}
	return n
}

// Crashed is one of the disks that a crash may leave, by its number from 0 on.
func (d *Disk) Crashed(way int) *Disk {
	left := &Disk{}
	for _, name := range slices.Sorted(maps.Keys(d.files)) {
		f := d.files[name]
		if b, is := f.behind(way % f.ways()); is {
			left.Keep(name, b)
		}
		way /= f.ways()
	}
	return left
}

// ways: a file may be gone that never was synced; else it is as it was when it was, or as it is; or all between, if it was only made longer.
func (f *diskFile) ways() int {
	n := 2
	if f.longer {
		n = len(f.now) - len(f.fast) + 1
	}
	if !f.synced {
		n++
	}
	return n
}

// behind is what a crash leaves of a file in one of its ways, and whether it leaves it at all.
func (f *diskFile) behind(way int) ([]byte, bool) {
	if !f.synced {
		if way == 0 {
			return nil, false
		}
		way--
	}
	if f.longer {
		return f.now[:len(f.fast)+way], true
	}
	if way == 0 {
		return f.fast, true
	}
	return f.now, true
}

// FailsAt has the call of a number fail so.
func FailsAt(number int, how func() api.Errno) func(int) func() api.Errno {
	return func(call int) func() api.Errno {
		if call == number {
			return how
		}
		return nil
	}
}

// Failures is how a disk may fail: by each of some errors, of which ErrIdentity is the first one, and by panics.
func Failures() []func() api.Errno {
	var l []func() api.Errno
	for _, e := range []api.Errno{api.ErrIdentity, api.ErrDisk, api.ErrArg, api.ErrPanic, api.ErrTorn, -1, 1 << 30} {
		l = append(l, func() api.Errno { return e })
	}
	for _, thrown := range Thrown() {
		l = append(l, func() api.Errno { panic(thrown) })
	}
	return l
}
