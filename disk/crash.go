package disk

import "orchard/api"

// fuse is how many changes are left until one crashes (0: none does), and what is then kept of each tail.
type fuse struct{ left, keep int }

// burn takes one from the fuse for a change; at 0 the disk crashes, and the change answers ErrDown.
func (d *Disk) burn() api.Errno {
	if d.fuse.left == 0 {
		return api.OK
	}
	d.fuse.left--
	if d.fuse.left > 0 {
		return api.OK
	}
	d.fall(d.fuse.keep)
	return api.ErrDown
}

func (d *Disk) fall(keep int) {
	d.used = 0
	for _, f := range d.files {
		f.tear(keep)
		d.used += f.size()
	}
	d.fuse = fuse{}
	d.down = true
}

// SetFuse lets the k-th change from now on crash; with 0 none does.
func (d *Disk) SetFuse(k, keep int) api.Errno {
	if !d.isMade() {
		return api.ErrMade
	}
	if k < 0 || keep < 0 {
		return api.ErrArg
	}
	if d.down {
		return api.ErrDown
	}
	d.fuse = fuse{left: k, keep: keep}
	return api.OK
}

// Crash crashes the disk.
func (d *Disk) Crash(keep int) api.Errno {
	if !d.isMade() {
		return api.ErrMade
	}
	if keep < 0 {
		return api.ErrArg
	}
	if d.down {
		return api.ErrDown
	}
	d.fall(keep)
	return api.OK
}

// Restart brings it up again.
func (d *Disk) Restart() api.Errno {
	if !d.isMade() {
		return api.ErrMade
	}
	if !d.down {
		return api.ErrArg
	}
	d.down = false
	return api.OK
}
