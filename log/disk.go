package log

import "tenon/api"

// tried is what a disk answers that is asked something. ErrPanic stands till it has answered, so that it does not matter what is panicked with.
func tried(ask func() api.Errno) (e api.Errno) {
	e = api.ErrPanic
	defer func() { recover() }()
	return ask()
}

// told is a file's bytes: of one that is none, none.
func told(d api.Disk, name string) ([]byte, api.Errno) {
	var b []byte
	e := tried(func() api.Errno {
		read, e := d.Read(name)
		if e == api.OK {
			b = read
		}
		return e
	})
	if e != api.OK && e != api.ErrIdentity {
		return nil, api.ErrDisk
	}
	return b, api.OK
}

// write has bytes put behind what the Writer knows, to stand fast.
func (w *Writer) write(b []byte) api.Errno {
	return w.change(func() api.Errno { return w.disk.Write(w.name, w.size, b) })
}

// cut has the file shortened, and that stand fast.
func (w *Writer) cut(size int) api.Errno {
	return w.change(func() api.Errno { return w.disk.Cut(w.name, size) })
}

// change has something done to the file, and synced. Till both are done the Writer counts as failed: for good, if one fails; and for a disk that calls it meanwhile, whose frames would be written where others are just being put.
func (w *Writer) change(does func() api.Errno) api.Errno {
	w.failed = true
	for _, ask := range []func() api.Errno{does, func() api.Errno { return w.disk.Sync(w.name) }} {
		if tried(ask) != api.OK {
			return api.ErrDisk
		}
	}
	w.failed = false
	return api.OK
}
