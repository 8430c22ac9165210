package disk

import (
	"bytes"
	"fmt"
	"math"
	"math/rand"
	"runtime"
	"slices"
	"strings"
	"testing"
	"weak"

	"narrows/api"
)

// octet is an octet of a disk, and whether it is sure.
type octet struct {
	value byte
	sure  bool
}

// model is a disk, written a second time: each octet has a mark of its own.
type model struct {
	room int
	l    []octet
}

// write is Write, written a second time.
func (m *model) write(b []byte) api.Errno {
	if len(m.l)+len(b) > m.room {
		return 10
	}
	for _, value := range b {
		m.l = append(m.l, octet{value: value})
	}
	return 0
}

// sync is Sync, written a second time.
func (m *model) sync() int {
	many := 0
	for place := range m.l {
		if !m.l[place].sure {
			many++
		}
		m.l[place].sure = true
	}
	return many
}

// fall is Fall, written a second time.
func (m *model) fall(keep int) {
	var left []octet
	for _, o := range m.l {
		if o.sure {
			left = append(left, o)
		} else if keep > 0 {
			keep--
			left = append(left, octet{o.value, true})
		}
	}
	m.l = left
}

// trim is Trim, written a second time.
func (m *model) trim(size int) api.Errno {
	if size < 0 || len(m.l) < size {
		return 4
	}
	for len(m.l) > size {
		m.l = m.l[:len(m.l)-1]
	}
	m.sync()
	return 0
}

// octets is Octets, written a second time.
func (m *model) octets() string {
	var b strings.Builder
	for _, o := range m.l {
		b.WriteByte(o.value)
	}
	return b.String()
}

// fresh is Fresh, written a second time.
func (m *model) fresh() int {
	return (&model{l: slices.Clone(m.l)}).sync()
}

// begin is a disk, and its model.
func begin(room int) (*Disk, *model) {
	return New(room), &model{room: room}
}

// is tells it, if the disk answers otherwise than the model.
func is(t *testing.T, what string, d *Disk, m *model) {
	t.Helper()
	if got, want := string(d.Octets()), m.octets(); got != want {
		t.Fatalf("%s: Octets() = %q, want %q", what, got, want)
	}
	if got, want := d.Fresh(), m.fresh(); got != want {
		t.Fatalf("%s: Fresh() = %d, want %d", what, got, want)
	}
}

// write writes on both, and tells it, if they answer otherwise than it should be.
func write(t *testing.T, d *Disk, m *model, b string, want api.Errno) {
	t.Helper()
	if got, second := d.Write([]byte(b)), m.write([]byte(b)); got != want || second != want {
		t.Fatalf("Write(%d octets) = %d (the second writing: %d), want %d", len(b), got, second, want)
	}
	is(t, "behind Write", d, m)
}

// sync makes all sure on both, and tells it, if they answer otherwise than it should be.
func sync(t *testing.T, d *Disk, m *model, want int) {
	t.Helper()
	if got, second := d.Sync(), m.sync(); got != want || second != want {
		t.Fatalf("Sync() = %d (the second writing: %d), want %d", got, second, want)
	}
	is(t, "behind Sync", d, m)
}

// fall lets both fall.
func fall(t *testing.T, d *Disk, m *model, keep int) {
	t.Helper()
	d.Fall(keep)
	m.fall(keep)
	is(t, fmt.Sprintf("behind Fall(%d)", keep), d, m)
}

// trim trims both, and tells it, if they answer otherwise than it should be.
func trim(t *testing.T, d *Disk, m *model, size int, want api.Errno) {
	t.Helper()
	if got, second := d.Trim(size), m.trim(size); got != want || second != want {
		t.Fatalf("Trim(%d) = %d (the second writing: %d), want %d", size, got, second, want)
	}
	is(t, fmt.Sprintf("behind Trim(%d)", size), d, m)
}

// holds tells it, if there is room for more, or for fewer, than so many octets in all. It fills the disk.
func holds(t *testing.T, what string, d *Disk, room int) {
	t.Helper()
	left := room - len(d.Octets())
	if got := d.Write(make([]byte, left+1)); got != api.ErrFull {
		t.Fatalf("%s: there is room for %d and one more: %d", what, room, got)
	}
	if got := d.Write(make([]byte, left)); got != api.OK || len(d.Octets()) != room {
		t.Fatalf("%s: there is no room for %d: %d", what, room, got)
	}
	if got := d.Write([]byte{1}); got != api.ErrFull {
		t.Fatalf("%s: it is full, and one more is taken: %d", what, got)
	}
}

// numbers are rooms, sizes and counts of any size.
func numbers() []int {
	return []int{math.MinInt, math.MinInt + 1, -1 << 40, -1 << 32, -1<<32 + 3, -65537, -65536, -65535, -257, -256, -9, -8, -7, -6, -5, -4, -3, -2, -1,
		0, 1, 2, 3, 4, 5, 6, 7, 8, 9, 10, 255, 256, 257, 1023, 1024, 1<<16 - 2, 1<<16 - 1, 1 << 16, 1<<16 + 1, 1<<16 + 2, 1 << 17,
		1 << 32, 1<<32 + 3, 1<<40 - 1, 1 << 40, 1<<40 + 1, math.MaxInt - 6, math.MaxInt - 3, math.MaxInt - 2, math.MaxInt - 1, math.MaxInt}
}

// of are both with octets that are sure, and octets behind them that are not.
func of(t *testing.T, room int, sure int, fresh int) (*Disk, *model) {
	t.Helper()
	all := "abcdefghijklmnopqrstuvwxyz"
	d, m := begin(room)
	write(t, d, m, all[:sure], api.OK)
	sync(t, d, m, sure)
	write(t, d, m, all[sure:sure+fresh], api.OK)
	return d, m
}

// P15.1, the chapter's example, and that of the stage's test.
func TestExamples(t *testing.T) {
	d := New(9)
	if err := d.Write([]byte("ab")); err != api.OK {
		t.Errorf("Write = %d", err)
	}
	if got := d.Sync(); got != 2 {
		t.Errorf("Sync() = %d, want 2", got)
	}
	d.Write([]byte("cd"))
	d.Fall(1)
	if got := string(d.Octets()); got != "abc" || d.Fresh() != 0 {
		t.Errorf("Octets() = %q, Fresh() = %d", got, d.Fresh())
	}
}

// P15.1, New: nothing is on it; it has so much room, from 0 to MaxDisk, else the nearest.
func TestNew(t *testing.T) {
	for _, room := range numbers() {
		what := fmt.Sprintf("New(%d)", room)
		d, m := New(room), &model{}
		is(t, what, d, m)
		if err := d.Write(nil); err != api.OK {
			t.Errorf("%s: nothing is written: %d", what, err)
		}
		if got := d.Sync(); got != 0 {
			t.Errorf("%s: Sync() = %d", what, got)
		}
		is(t, what, d, m)
		holds(t, what, d, min(max(room, 0), 65536))
	}
	for room := range 70 {
		holds(t, fmt.Sprintf("New(%d)", room), New(room), room)
	}
}

// P15.1, Write: octets of any kind stand behind the others, in order, and are not sure.
func TestWrite(t *testing.T) {
	d, m := begin(3000)
	all := ""
	for value := range 256 {
		b := string([]byte{byte(value), byte(255 - value), 0}[:1+value%3])
		write(t, d, m, b, api.OK)
		all += b
		if string(d.Octets()) != all || d.Fresh() != len(all) {
			t.Fatalf("%d: %q, %d are not sure", value, d.Octets(), d.Fresh())
		}
	}
	sync(t, d, m, len(all))
	for value := range 256 {
		write(t, d, m, string([]byte{byte(value), 7}), api.OK)
		if got := d.Octets(); string(got[:len(all)]) != all || d.Fresh() != 2*value+2 {
			t.Fatalf("%d: %q, %d are not sure", value, got, d.Fresh())
		}
	}
}

// P15.1, Write: nothing written is nothing changed, on a full disk and on one without room too.
func TestWriteNothing(t *testing.T) {
	for room := range 7 {
		for sure := range room + 1 {
			for fresh := range room - sure + 1 {
				d, m := of(t, room, sure, fresh)
				for _, b := range [][]byte{nil, {}, make([]byte, 0, 8)} {
					if got := d.Write(b); got != api.OK {
						t.Fatalf("room %d, %d sure, %d not: Write of nothing = %d", room, sure, fresh, got)
					}
					is(t, "behind nothing", d, m)
				}
				holds(t, "behind nothing", d, room)
			}
		}
	}
}

// P15.1, Write: without room for all of it ErrFull, and nothing of it is there; what there is room for is taken then.
func TestWriteFull(t *testing.T) {
	for room := range 7 {
		for sure := range room + 1 {
			for fresh := range room - sure + 1 {
				left := room - sure - fresh
				for _, many := range []int{left + 1, left + 2, 2*left + 3, room + 1, 9, 300, 1<<16 - 1, 1 << 16, 1<<16 + 1, 1 << 17} {
					if many <= left {
						continue
					}
					d, m := of(t, room, sure, fresh)
					write(t, d, m, strings.Repeat("x", many), api.ErrFull)
					write(t, d, m, strings.Repeat("y", left), api.OK)
					write(t, d, m, "z", api.ErrFull)
					sync(t, d, m, room-sure)
					write(t, d, m, "z", api.ErrFull)
					fall(t, d, m, 0)
					if got := len(d.Octets()); got != room {
						t.Fatalf("room %d: %d octets", room, got)
					}
				}
			}
		}
	}
}

// P15.1, Sync: how many were not sure; then all are, and stay as they are.
func TestSync(t *testing.T) {
	for sure := range 9 {
		for fresh := range 9 {
			d, m := of(t, 20, sure, fresh)
			before := string(d.Octets())
			sync(t, d, m, fresh)
			sync(t, d, m, 0)
			if string(d.Octets()) != before || d.Fresh() != 0 {
				t.Errorf("%d sure, %d not: %q", sure, fresh, d.Octets())
			}
			fall(t, d, m, 0)
			if string(d.Octets()) != before {
				t.Errorf("%d sure, %d not: behind a fall %q, want %q", sure, fresh, d.Octets(), before)
			}
			write(t, d, m, "xyz", api.OK)
			sync(t, d, m, 3)
		}
	}
}

// P15.1, Fall: of those that are not sure the first stay, as many as are kept, and are sure.
func TestFall(t *testing.T) {
	for sure := range 8 {
		for fresh := range 8 {
			for _, keep := range numbers() {
				d, m := of(t, 20, sure, fresh)
				before := string(d.Octets())
				fall(t, d, m, keep)
				left := sure + min(max(keep, 0), fresh)
				if got := string(d.Octets()); got != before[:left] || d.Fresh() != 0 {
					t.Fatalf("%d sure, %d not: Fall(%d) leaves %q, %d are not sure", sure, fresh, keep, got, d.Fresh())
				}
				fall(t, d, m, 0)
				fall(t, d, m, keep)
				sync(t, d, m, 0)
				write(t, d, m, "XY", api.OK)
				fall(t, d, m, 1)
				if got := string(d.Octets()); got != before[:left]+"X" {
					t.Fatalf("%d sure, %d not: behind Fall(%d) %q", sure, fresh, keep, got)
				}
				holds(t, "behind Fall", d, 20)
			}
		}
	}
}

// P15.1, Trim: the first are left, and sure; ErrRange, and nothing changes, of more than there are and of fewer than none.
func TestTrim(t *testing.T) {
	for sure := range 8 {
		for fresh := range 8 {
			for _, size := range append(numbers(), 11, 12, 13, 14, 15, 20, 21) {
				d, m := of(t, 20, sure, fresh)
				before := string(d.Octets())
				if size < 0 || size > sure+fresh {
					trim(t, d, m, size, api.ErrRange)
					if string(d.Octets()) != before || d.Fresh() != fresh {
						t.Fatalf("%d sure, %d not: Trim(%d) changes it", sure, fresh, size)
					}
					sync(t, d, m, fresh)
					continue
				}
				trim(t, d, m, size, api.OK)
				fall(t, d, m, 0)
				if got := string(d.Octets()); got != before[:size] || d.Fresh() != 0 {
					t.Fatalf("%d sure, %d not: Trim(%d) leaves %q, %d are not sure", sure, fresh, size, got, d.Fresh())
				}
				write(t, d, m, "XY", api.OK)
				if d.Fresh() != 2 {
					t.Fatalf("behind Trim(%d) %d are not sure", size, d.Fresh())
				}
				holds(t, "behind Trim", d, 20)
			}
		}
	}
}

// P15.1: what is gone is room again, on a full disk too.
func TestRoomAgain(t *testing.T) {
	for room := 1; room < 20; room++ {
		for left := range room {
			d, m := of(t, room, left, room-left)
			write(t, d, m, "x", api.ErrFull)
			fall(t, d, m, 0)
			write(t, d, m, strings.Repeat("y", room-left+1), api.ErrFull)
			write(t, d, m, strings.Repeat("y", room-left), api.OK)
			write(t, d, m, "x", api.ErrFull)
			sync(t, d, m, room-left)
			trim(t, d, m, left, api.OK)
			holds(t, "behind Trim", d, room)
		}
	}
}

// deeds are what may be done with a disk; each on both. What is written at first is told by the count.
func deeds() []func(t *testing.T, d *Disk, m *model, count int) {
	var l []func(t *testing.T, d *Disk, m *model, count int)
	for many := range 4 {
		l = append(l, func(t *testing.T, d *Disk, m *model, count int) {
			b := bytes.Repeat([]byte{byte('a' + count)}, many)
			if got, want := d.Write(b), m.write(b); got != want {
				t.Fatalf("Write(%q) = %d, want %d", b, got, want)
			}
		})
	}
	l = append(l, func(t *testing.T, d *Disk, m *model, count int) {
		if got, want := d.Sync(), m.sync(); got != want {
			t.Fatalf("Sync() = %d, want %d", got, want)
		}
	})
	for n := -1; n < 5; n++ {
		l = append(l, func(t *testing.T, d *Disk, m *model, count int) {
			d.Fall(n)
			m.fall(n)
		}, func(t *testing.T, d *Disk, m *model, count int) {
			if got, want := d.Trim(n), m.trim(n); got != want {
				t.Fatalf("Trim(%d) = %d, want %d", n, got, want)
			}
		})
	}
	return l
}

// P15.1, P15.2: whatever four things are done, in whatever order, on disks of little room.
func TestEachOrder(t *testing.T) {
	l := deeds()
	all := len(l) * len(l) * len(l) * len(l)
	for room := range 5 {
		for n := range all {
			d, m := begin(room)
			for count, left := 0, n; count < 4; count, left = count+1, left/len(l) {
				l[left%len(l)](t, d, m, count)
			}
			is(t, fmt.Sprintf("room %d, order %d", room, n), d, m)
		}
	}
}

// P15.2: what is sure lasts, and where it stands, whatever is done but to trim it away; a fall leaves a beginning.
func TestSureLasts(t *testing.T) {
	r := rand.New(rand.NewSource(15))
	for run := range 200 {
		d := New(40 + run)
		sure := ""
		for range 60 {
			before := string(d.Octets())
			switch r.Intn(5) {
			case 0, 1:
				b := make([]byte, r.Intn(12))
				r.Read(b)
				d.Write(b)
			case 2:
				d.Sync()
				sure = before
			case 3:
				d.Fall(r.Intn(20) - 4)
				sure = string(d.Octets())
				if !strings.HasPrefix(before, sure) {
					t.Fatalf("%q is left of %q", sure, before)
				}
			case 4:
				if size := len(sure) + r.Intn(len(before)-len(sure)+9); d.Trim(size) == api.OK {
					sure = before[:size]
				}
			}
			if !strings.HasPrefix(string(d.Octets()), sure) || len(sure) != len(d.Octets())-d.Fresh() {
				t.Fatalf("%q is sure, and %q is there, of which %d are not", sure, d.Octets(), d.Fresh())
			}
		}
	}
}

// P15.1: of one that nobody made: ErrState, 0, nothing; and it stays one that nobody made.
func TestNobodyMade(t *testing.T) {
	for name, d := range map[string]*Disk{"nil": nil, "zero": {}, "new": new(Disk)} {
		for _, n := range numbers() {
			for _, b := range [][]byte{nil, {}, {1}, make([]byte, 70000)} {
				if got := d.Write(b); got != api.ErrState {
					t.Errorf("%s: Write(%d octets) = %d", name, len(b), got)
				}
			}
			if got := d.Trim(n); got != api.ErrState {
				t.Errorf("%s: Trim(%d) = %d", name, n, got)
			}
			d.Fall(n)
			if got := d.Sync(); got != 0 {
				t.Errorf("%s: Sync() = %d", name, got)
			}
			if got := d.Octets(); len(got) != 0 || d.Fresh() != 0 {
				t.Errorf("%s: Octets() = %q, Fresh() = %d", name, got, d.Fresh())
			}
		}
	}
}

// P15.1: at random, on disks of any room, what is told is what the second writing tells.
func TestAtRandom(t *testing.T) {
	r := rand.New(rand.NewSource(16))
	var full, wrong int
	for run := range 60 {
		room := []int{0, 1, 7, 64, 1000, 5000}[run%6]
		d, m := begin(room)
		for range 80 {
			b := make([]byte, r.Intn(room/8+3))
			r.Read(b)
			n := r.Intn(room+room/4+3) - room/16 - 1
			switch r.Intn(10) {
			case 0:
				sync(t, d, m, m.fresh())
			case 1:
				fall(t, d, m, n/4)
			case 2:
				want := (&model{l: slices.Clone(m.l)}).trim(n)
				trim(t, d, m, n, want)
				wrong += int(want)
			default:
				want := (&model{room: m.room, l: slices.Clone(m.l)}).write(b)
				write(t, d, m, string(b), want)
				full += int(want)
			}
		}
		holds(t, "at random", d, room)
	}
	if full < 1000 || wrong < 400 {
		t.Errorf("too little went wrong: %d, %d", full, wrong)
	}
}

// P15.1: as much as there may be, octet by octet and in parts of any size.
func TestAllRoom(t *testing.T) {
	for _, part := range []int{7, 256, 1000, 4096, 65535, 65536} {
		d := New(1 << 16)
		var all []byte
		for len(all) < 1<<16 {
			b := make([]byte, min(part, 1<<16-len(all)))
			for place := range b {
				b[place] = byte((len(all) + place) * 31 >> 3)
			}
			if err := d.Write(b); err != api.OK {
				t.Fatalf("part %d: behind %d octets %d", part, len(all), err)
			}
			all = append(all, b...)
			if d.Fresh() != len(all) {
				t.Fatalf("part %d: %d are not sure, want %d", part, d.Fresh(), len(all))
			}
		}
		holds(t, "all", d, 1<<16)
		d.Fall(65530)
		if !bytes.Equal(d.Octets(), all[:65530]) {
			t.Errorf("part %d: other octets are there", part)
		}
		d.Write([]byte("123456"))
		if d.Sync() != 6 || d.Trim(65537) != api.ErrRange || d.Trim(65536) != api.OK || d.Trim(65531) != api.OK {
			t.Errorf("part %d: %d octets", part, len(d.Octets()))
		}
		if !bytes.Equal(d.Octets(), append(all[:65530], '1')) {
			t.Errorf("part %d: other octets are there", part)
		}
	}
	ones := New(5000)
	for place := range 5001 {
		if got := ones.Write([]byte{byte(place)}) == api.OK; got != (place < 5000) {
			t.Fatalf("octet %d: %t", place, got)
		}
	}
}

// spoil writes over all of a list, as far as it has room.
func spoil(b []byte) {
	for place := range b[:cap(b)] {
		b[:cap(b)][place] = '!'
	}
}

// P15.3: what is handed in is not changed, as far as it has room, and is not kept.
func TestMemoryOfWrite(t *testing.T) {
	for sure := range 6 {
		for many := range 12 {
			b := []byte("abcdefghijklmnopqrstuvwxyz")
			d := New(60)
			d.Write(b[:sure])
			d.Sync()
			d.Write(b[sure : sure+many])
			want := string(d.Octets())
			d.Write(b[sure+many:])
			d.Octets()
			d.Fall(many)
			if got := string(d.Octets()); got != want {
				t.Fatalf("%q, want %q", got, want)
			}
			d.Write([]byte("XYZ"))
			d.Trim(sure + many + 1)
			if string(b) != "abcdefghijklmnopqrstuvwxyz" {
				t.Fatalf("what was handed in is %q", b)
			}
			spoil(b)
			if got := string(d.Octets()); got != want+"X" {
				t.Fatalf("what was handed in was kept: %q, want %q", got, want+"X")
			}
		}
	}
}

// changes are what changes a disk, or may.
func changes() []func(d *Disk) {
	return []func(d *Disk){
		func(d *Disk) { d.Write([]byte("WXYZ")) }, func(d *Disk) { d.Write(nil) }, func(d *Disk) { d.Write(make([]byte, 400)) },
		func(d *Disk) { d.Sync() }, func(d *Disk) { d.Fresh() }, func(d *Disk) { d.Octets() },
		func(d *Disk) { d.Fall(-1) }, func(d *Disk) { d.Fall(0) }, func(d *Disk) { d.Fall(2) }, func(d *Disk) { d.Fall(99) },
		func(d *Disk) { d.Trim(0) }, func(d *Disk) { d.Trim(3) }, func(d *Disk) { d.Trim(-1) }, func(d *Disk) { d.Trim(len(d.Octets())) },
	}
}

// P15.3: an answer is new memory, as far as it has room: written over, and the disk is as it was; and no later call changes an answer.
func TestMemoryOfOctets(t *testing.T) {
	for sure := range 7 {
		for fresh := range 7 {
			for first, change := range changes() {
				for _, again := range changes() {
					d, m := of(t, 300, sure, fresh)
					before := d.Octets()
					want := string(before)
					spoil(d.Octets())
					is(t, "written over", d, m)
					change(d)
					behind := d.Octets()
					still := string(behind)
					spoil(d.Octets())
					again(d)
					spoil(d.Octets())
					d.Write([]byte("more"))
					if string(before) != want || string(behind) != still {
						t.Fatalf("%d sure, %d not, change %d: an answer is another: %q, %q", sure, fresh, first, before, behind)
					}
				}
			}
		}
	}
}

// P15.3: what an answer is appended to does not reach the disk, nor what is written later the answer.
func TestMemoryAppended(t *testing.T) {
	d, m := of(t, 100, 5, 6)
	first, second := d.Octets(), d.Octets()
	first, second = append(first, "mine"...), append(second, "yours"...)
	is(t, "appended to", d, m)
	write(t, d, m, "disk", api.OK)
	if string(first) != "abcdefghijkmine" || string(second) != "abcdefghijkyours" {
		t.Errorf("%q, %q", first, second)
	}
	// What a disk tells may be written on it again.
	d.Write(d.Octets()[2:5])
	m.write([]byte("cde"))
	is(t, "its own", d, m)
}

// P3, P15.3: disks know nothing of each other, also those on which the same was written.
func TestTwoDisks(t *testing.T) {
	alone := New(90)
	a, b := New(90), New(50)
	r := rand.New(rand.NewSource(17))
	for n := range 400 {
		piece := []byte{byte(n), byte(n >> 3), 1}
		alone.Write(piece)
		a.Write(piece)
		b.Write(piece)
		changes()[r.Intn(len(changes()))](b)
		spoil(b.Octets())
		alone.Fall(n % 5)
		a.Fall(n % 5)
		if n%37 == 0 {
			alone.Trim(n % 11)
			a.Trim(n % 11)
		}
		if !bytes.Equal(a.Octets(), alone.Octets()) || a.Fresh() != alone.Fresh() {
			t.Fatalf("%d: %q, want %q", n, a.Octets(), alone.Octets())
		}
	}
}

// P15.3: a disk that was copied as a value keeps its own, whichever is changed first.
func TestCopiedAsValue(t *testing.T) {
	for sure := range 5 {
		for fresh := range 5 {
			for place, change := range changes() {
				for _, again := range changes() {
					d, m := of(t, 300, sure, fresh)
					d.Write([]byte("12345"))
					m.write([]byte("12345"))
					d.Fall(fresh + 2)
					m.fall(fresh + 2)
					copied := *d
					change(d)
					d.Write([]byte("first"))
					is(t, fmt.Sprintf("change %d: the copy", place), &copied, m)
					want, many := string(d.Octets()), d.Fresh()
					again(&copied)
					copied.Write([]byte("second"))
					if got := string(d.Octets()); got != want || d.Fresh() != many {
						t.Fatalf("change %d: the first is %q, want %q", place, got, want)
					}
				}
			}
		}
	}
}

// What is gone is kept nowhere, however little is left of it.
func TestGone(t *testing.T) {
	for name, drop := range map[string]func(d *Disk){
		"Fall":      func(d *Disk) { d.Fall(3) },
		"Trim":      func(d *Disk) { d.Trim(3) },
		"Fall, all": func(d *Disk) { d.Fall(0) },
		"Trim, all": func(d *Disk) { d.Trim(0) },
	} {
		d := New(1 << 16)
		d.Write(make([]byte, 1<<16))
		gone := weak.Make(&d.octets[0])
		drop(d)
		runtime.GC()
		if gone.Value() != nil {
			t.Errorf("%s: what is gone is kept", name)
		}
		runtime.KeepAlive(d)
	}
}
