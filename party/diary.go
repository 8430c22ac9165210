// Package party is what parties are alike in: how users, routers and the relayer look at a side, and the journal of users and routers, which outlasts falls.
package party

import (
	"narrows/api"
	"narrows/disk"
	"narrows/journal"
)

// Diary is a journal on a disk of its own, and whether the party that keeps it is down.
type Diary struct {
	disk *disk.Disk
	down bool
}

// Begin is a diary without records, of a party that is up; room is its disk's.
func Begin(room int) Diary {
	return Diary{disk: disk.New(room)}
}

// Fault is why nothing can be told to the party: nobody made it, or it is down; OK, if it is up.
func (d *Diary) Fault() api.Errno {
	if d.disk == nil {
		return api.ErrState
	}
	if d.down {
		return api.ErrDown
	}
	return api.OK
}

// append puts records behind the others, all of them or none; they are not sure.
func (d *Diary) append(records [][]byte) bool {
	return journal.Append(d.disk, records...) == api.OK
}

// Keep makes records sure; false, if there is no room for all of them: then none is kept, and the party is down.
func (d *Diary) Keep(records [][]byte) bool {
	if !d.append(records) {
		d.down = true
		return false
	}
	d.disk.Sync()
	return true
}

// Fall lets the power go as records are kept: of their octets the first keep last, and the party is down.
func (d *Diary) Fall(records [][]byte, keep int) {
	// Without room for all records there are none whose octets could last.
	d.append(records)
	d.disk.Fall(keep)
	d.down = true
}

// Records is what lasts, in order.
func (d *Diary) Records() [][]byte {
	records, _ := journal.Load(d.disk)
	return records
}

// Up starts a party that is down; ErrState, if it is not.
func (d *Diary) Up() api.Errno {
	if d.Fault() != api.ErrDown {
		return api.ErrState
	}
	d.down = false
	return api.OK
}
