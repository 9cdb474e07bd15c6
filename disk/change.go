package disk

import "orchard/api"

// ready finds what is wrong with a call about files of these names, whether they are there or not.
func (d *Disk) ready(names ...string) api.Errno {
	if !d.isMade() {
		return api.ErrMade
	}
	if d.down {
		return api.ErrDown
	}
	for _, name := range names {
		if len(name) == 0 || len(name) > api.MaxFile {
			return api.ErrDiskName
		}
	}
	return api.OK
}

func (d *Disk) find(name string) (*file, api.Errno) {
	if err := d.ready(name); err != api.OK {
		return nil, err
	}
	f := d.files[name]
	if f == nil {
		return nil, api.ErrNone
	}
	return f, api.OK
}

// Append puts bytes to the end of a file.
func (d *Disk) Append(name string, b []byte) api.Errno {
	if err := d.ready(name); err != api.OK {
		return err
	}
	f := d.files[name]
	if f == nil && len(d.files) >= api.MaxFiles {
		return api.ErrLong
	}
	if len(b) > d.room-d.used {
		return api.ErrFull
	}
	if f == nil {
		f = &file{}
		d.files[name] = f
	}
	// Ahead of the fuse: of these bytes a crash in the midst keeps as many as of any tail.
	f.put(b)
	d.used += len(b)
	return d.burn()
}

// Sync makes all of a file outlive crashes.
func (d *Disk) Sync(name string) api.Errno {
	f, err := d.find(name)
	if err != api.OK {
		return err
	}
	if err := d.burn(); err != api.OK {
		return err
	}
	f.sync()
	return api.OK
}

// Remove takes a file away.
func (d *Disk) Remove(name string) api.Errno {
	f, err := d.find(name)
	if err != api.OK {
		return err
	}
	if err := d.burn(); err != api.OK {
		return err
	}
	d.drop(name, f)
	return api.OK
}

// Rename gives a file another name.
func (d *Disk) Rename(from, to string) api.Errno {
	// Both names ahead of the file: a name that may not be is told also where no file is named from.
	if err := d.ready(from, to); err != api.OK {
		return err
	}
	f, err := d.find(from)
	if err != api.OK {
		return err
	}
	if err := d.burn(); err != api.OK {
		return err
	}
	// In this order, a file that is renamed to its own name stays.
	delete(d.files, from)
	if over := d.files[to]; over != nil {
		d.drop(to, over)
	}
	d.files[to] = f
	return api.OK
}

// drop takes a file and its bytes off the disk.
func (d *Disk) drop(name string, f *file) {
	delete(d.files, name)
	d.used -= f.size()
}

// Read are a file's bytes.
func (d *Disk) Read(name string) ([]byte, api.Errno) {
	f, err := d.find(name)
	if err != api.OK {
		return nil, err
	}
	return f.bytes(), api.OK
}

// Size is how many bytes a file has, and how many of them are synced.
func (d *Disk) Size(name string) (int, int, api.Errno) {
	f, err := d.find(name)
	if err != api.OK {
		return 0, 0, err
	}
	return f.size(), len(f.safe), api.OK
}
