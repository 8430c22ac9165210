package journal

import (
	"bytes"
	"crypto/sha256"
	"encoding/binary"
	"fmt"
	"math"
	"math/rand"
	"slices"
	"strings"
	"testing"

	"narrows/api"
	"narrows/disk"
)

// framed is a text with a head, written a second time, also where the text is too long for a record.
func framed(s string) string {
	sum := sha256.Sum256([]byte(s))
	head := binary.BigEndian.AppendUint16(nil, uint16(len(s)))
	return string(head) + string(sum[:4]) + s
}

// allFramed is the octets of records, one behind the other, and where each one ends.
func allFramed(l []string) (string, []int) {
	all, ends := "", []int(nil)
	for _, s := range l {
		all += framed(s)
		ends = append(ends, len(all))
	}
	return all, ends
}

// splitOf is Split, written a second time: what is behind the first record is split by itself.
func splitOf(b string) ([]string, int) {
	for size := 0; size <= 1024 && size+6 <= len(b); size++ {
		if int(b[0])<<8|int(b[1]) != size || framed(b[6:6+size]) != b[:6+size] {
			continue
		}
		rest, end := splitOf(b[6+size:])
		return append([]string{b[6 : 6+size]}, rest...), 6 + size + end
	}
	return nil, 0
}

// lists are texts as lists of octets; the empty one by turns as nil.
func lists(l []string) [][]byte {
	var all [][]byte
	for place, s := range l {
		if s == "" && place%2 == 0 {
			all = append(all, nil)
		} else {
			all = append(all, []byte(s))
		}
	}
	return all
}

// texts are lists of octets as texts.
func texts(l [][]byte) []string {
	var all []string
	for _, b := range l {
		all = append(all, string(b))
	}
	return all
}

// row is size octets, none like the one next to it, with no period of 256.
func row(size int) string {
	b := make([]byte, size)
	for place := range b {
		b[place] = byte(place + place/256 + size)
	}
	return string(b)
}

// sizes are of texts that may be records: edges of each octet, and the longest.
func sizes() []int {
	return []int{0, 1, 2, 3, 5, 6, 7, 8, 55, 56, 63, 64, 65, 127, 128, 254, 255, 256, 257, 258, 511, 512, 513, 767, 768, 1022, 1023, 1024}
}

// tooLong are sizes of texts that may not; the lowest 16 bits of some could.
func tooLong() []int {
	return []int{1025, 1026, 1030, 1279, 1280, 2047, 2048, 4096, 32767, 32768, 65535, 65536, 65537, 65539, 66560, 66561, 131072, 131075, 1<<24 + 1}
}

// few are short lists of records: whatever up to three of five kinds, in whatever order.
func few() [][]string {
	all := [][]string{nil}
	for from := 0; len(all[from]) < 3; from++ {
		for _, s := range []string{"", "\x00", "a", "xyz", "\x00\x00\xe3\xb0\xc4\x42"} {
			all = append(all, append(slices.Clone(all[from]), s))
		}
	}
	return all
}

// split tells it, if Split does not answer so.
func split(t *testing.T, what string, b string, want []string, ends int) {
	t.Helper()
	got, end := Split([]byte(b))
	if !slices.Equal(texts(got), want) || end != ends {
		t.Fatalf("%s: Split of %d octets: %.60q up to %d, want %.60q up to %d", what, len(b), got, end, want, ends)
	}
}

// holds tells it, if something else than that is on the disk, or if another number of octets are not sure.
func holds(t *testing.T, what string, d *disk.Disk, want string, fresh int) {
	t.Helper()
	if got := string(d.Octets()); got != want || d.Fresh() != fresh {
		t.Fatalf("%s: on the disk %d octets %.60q, %d are not sure; want %d octets %.60q, %d", what, len(got), got, d.Fresh(), len(want), want, fresh)
	}
}

// add appends, and tells it, if the answer is another.
func add(t *testing.T, what string, d *disk.Disk, want api.Errno, l ...string) {
	t.Helper()
	if got := Append(d, lists(l)...); got != want {
		t.Fatalf("%s: Append(%d records) = %d, want %d", what, len(l), got, want)
	}
}

// load tells it, if Load tells something else than these records, or leaves something else, or not all of it sure.
func load(t *testing.T, what string, d *disk.Disk, want []string) {
	t.Helper()
	got, err := Load(d)
	if err != api.OK || !slices.Equal(texts(got), want) {
		t.Fatalf("%s: Load tells %d, %d records %.80q, want %d records %.80q", what, err, len(got), got, len(want), want)
	}
	all, _ := allFramed(want)
	holds(t, what+": behind Load", d, all, 0)
}

// on is a disk on which these octets are, and of them the first are sure.
func on(t *testing.T, room int, b string, sure int) *disk.Disk {
	t.Helper()
	d := disk.New(room)
	if d.Write([]byte(b[:sure])) != api.OK || d.Sync() != sure || d.Write([]byte(b[sure:])) != api.OK {
		t.Fatalf("%d octets are not on a disk of %d", len(b), room)
	}
	return d
}

// P16.1, the chapter's example, and that of the stage's test.
func TestExamples(t *testing.T) {
	for _, b := range [][]byte{nil, {}} {
		if l, end := Split(b); len(l) != 0 || end != 0 {
			t.Errorf("of nothing: %q up to %d", l, end)
		}
	}
	d := disk.New(9)
	if l, err := Load(d); len(l) != 0 || err != api.OK {
		t.Errorf("of nothing: %q, %d", l, err)
	}
	if err := Append(d); err != api.OK || len(d.Octets()) != 0 {
		t.Errorf("of nothing: %d, %q", err, d.Octets())
	}
	if b, err := Frame([]byte("a")); len(b) != 7 || err != api.OK {
		t.Errorf("Frame(a) = %q, %d", b, err)
	}
}

// P16.1, Frame: the length in 2 octets, the first 4 octets of the sum, and it (sums worked out outside Go).
func TestFrame(t *testing.T) {
	all := ""
	for value := range 256 {
		all += string([]byte{byte(value)})
	}
	for s, head := range map[string]string{
		"":                        "\x00\x00\xe3\xb0\xc4\x42",
		"a":                       "\x00\x01\xca\x97\x81\x12",
		"abc":                     "\x00\x03\xba\x78\x16\xbf",
		"\x00":                    "\x00\x01\x6e\x34\x0b\x9c",
		"\xff\x00\x80":            "\x00\x03\xef\x19\x2b\x7a",
		all:                       "\x01\x00\x40\xaf\xf2\xe9",
		strings.Repeat("x", 1024): "\x04\x00\x49\xab\xd6\x5b",
	} {
		if got, err := Frame([]byte(s)); err != api.OK || string(got) != head+s {
			t.Errorf("Frame(%.20q) = %.40q, %d", s, got, err)
		}
	}
	for size := range 1025 {
		if got, err := Frame([]byte(row(size))); err != api.OK || string(got) != framed(row(size)) {
			t.Fatalf("%d octets: %.40q, %d", size, got, err)
		}
	}
	if got, err := Frame(nil); err != api.OK || string(got) != framed("") {
		t.Errorf("Frame(nil) = %q, %d", got, err)
	}
}

// P16.1, Frame: more than MaxText octets are ErrLong, and nothing.
func TestFrameLong(t *testing.T) {
	for _, size := range tooLong() {
		if got, err := Frame(make([]byte, size)); err != api.ErrLong || len(got) != 0 {
			t.Errorf("%d octets: %d octets, %d", size, len(got), err)
		}
	}
}

// P16.1, Split: the records, and where the last one ends, of all sizes, one behind the other.
func TestSplit(t *testing.T) {
	for size := range 1025 {
		split(t, "one", framed(row(size)), []string{row(size)}, 6+size)
	}
	for _, one := range sizes() {
		for _, two := range sizes() {
			l := []string{row(one), row(two), row(one)}
			all, ends := allFramed(l)
			split(t, "three", all, l, ends[2])
		}
	}
	for _, l := range few() {
		all, _ := allFramed(l)
		split(t, "few", all, l, len(all))
	}
}

// P16.1, Split: records of which there are more than on any disk.
func TestSplitMany(t *testing.T) {
	for _, size := range []int{0, 1, 100, 1024} {
		l := slices.Repeat([]string{row(size)}, 1<<18/(size+6))
		split(t, "many", strings.Repeat(framed(row(size)), len(l)), l, len(l)*(size+6))
	}
}

// P16.1, Split: wherever the octets end, what is whole is told, and nothing else.
func TestSplitTorn(t *testing.T) {
	for _, l := range append(few(), []string{row(300), "", row(1024), row(255), row(256)}, []string{framed("in it"), framed("")}) {
		all, ends := allFramed(l)
		for size := range len(all) + 1 {
			whole, end := 0, 0
			for whole < len(l) && ends[whole] <= size {
				end = ends[whole]
				whole++
			}
			split(t, "torn", all[:size], l[:whole], end)
		}
	}
}

// P16.1, Split: an octet that is another one ends it ahead of its record, whatever stands behind.
func TestSplitChanged(t *testing.T) {
	for _, l := range [][]string{{""}, {"a"}, {"", "", ""}, {"ab", "", "xyz"}, {"\x00\x00", "same", "same"}, {row(9), row(70)}} {
		all, ends := allFramed(l)
		for place := range all {
			whole, end := 0, 0
			for ends[whole] <= place {
				end = ends[whole]
				whole++
			}
			for change := 1; change < 256; change++ {
				b := []byte(all)
				b[place] ^= byte(change)
				split(t, fmt.Sprintf("octet %d changed", place), string(b), l[:whole], end)
			}
		}
	}
	long, _ := allFramed([]string{"ahead", row(1024), row(256)})
	for place := len(framed("ahead")); place < len(framed("ahead")+framed(row(1024))); place++ {
		for bit := range 8 {
			b := []byte(long)
			b[place] ^= 1 << bit
			split(t, fmt.Sprintf("octet %d changed", place), string(b), []string{"ahead"}, 11)
		}
	}
}

// P16.1, Split: an octet that is gone, or too much.
func TestSplitShifted(t *testing.T) {
	for _, l := range [][]string{{"", "", "a"}, {"ab", "", "xyz"}, {"\x00", "\x00\x00", "\x00"}} {
		all, _ := allFramed(l)
		for place := range all {
			gone := all[:place] + all[place+1:]
			want, end := splitOf(gone)
			split(t, fmt.Sprintf("octet %d is gone", place), gone, want, end)
			for value := range 256 {
				more := all[:place] + string([]byte{byte(value)}) + all[place:]
				want, end = splitOf(more)
				split(t, fmt.Sprintf("octet %d is more", place), more, want, end)
			}
		}
	}
}

// P16.1, Split: what has more octets than a record may have is none, though it is whole and its sum right.
func TestSplitTooLong(t *testing.T) {
	for _, size := range tooLong() {
		if size > math.MaxUint16 {
			continue
		}
		long := framed(row(size))
		split(t, "too long", long, nil, 0)
		split(t, "too long, and more", long+framed("behind"), nil, 0)
		split(t, "behind a record", framed("ahead")+long+framed("behind"), []string{"ahead"}, 11)
	}
}

// P16.1, Split: a sum that is right of something else is not right.
func TestSplitOtherSum(t *testing.T) {
	sum := func(s string) string {
		b := sha256.Sum256([]byte(s))
		return string(b[:])
	}
	for what, b := range map[string]string{
		"with its length":      "\x00\x03" + sum("\x00\x03abc")[:4] + "abc",
		"of less":              "\x00\x03" + sum("ab")[:4] + "abc",
		"of more":              "\x00\x03" + sum("abcd")[:4] + "abcd",
		"of nothing":           "\x00\x03" + sum("")[:4] + "abc",
		"the last octets":      "\x00\x03" + sum("abc")[28:] + "abc",
		"the second octets":    "\x00\x03" + sum("abc")[4:8] + "abc",
		"the length behind":    sum("abc")[:4] + "\x00\x03" + "abc",
		"the lowest ahead":     "\x03\x00" + sum("abc")[:4] + "abc",
		"no length":            sum("abc")[:4] + "abc",
		"a length of 4 octets": "\x00\x00\x00\x03" + sum("abc")[:4] + "abc",
		"five octets of it":    "\x00\x03" + sum("abc")[:5] + "abc",
		"three octets of it":   "\x00\x03" + sum("abc")[:3] + "abc",
	} {
		split(t, what, b, nil, 0)
		split(t, what, framed("x")+b+framed("y"), []string{"x"}, 7)
	}
}

// anyOctets are records, and what is like one.
func anyOctets(r *rand.Rand) string {
	b := ""
	for range r.Intn(6) {
		s := make([]byte, []int{0, 1, 4, 30, 500}[r.Intn(5)])
		r.Read(s)
		one := framed(string(s))
		switch r.Intn(8) {
		case 0:
			one = one[:r.Intn(len(one)+1)]
		case 1:
			one = one[r.Intn(len(one)+1):]
		case 2:
			place := r.Intn(len(one))
			one = one[:place] + string([]byte{byte(r.Intn(256))}) + one[place+1:]
		case 3:
			one = framed(one)
		}
		b += one
	}
	return b
}

// P16.1, Split: of octets of any kind what the second writing tells; and what is told are a beginning's octets.
func TestSplitAnything(t *testing.T) {
	r := rand.New(rand.NewSource(161))
	many := 0
	for range 20000 {
		b := anyOctets(r)
		want, end := splitOf(b)
		split(t, "any octets", b, want, end)
		if again, _ := allFramed(want); again != b[:end] {
			t.Fatalf("%q up to %d of %q", want, end, b)
		}
		many += len(want)
	}
	if many < 15000 {
		t.Errorf("too few records: %d", many)
	}
	for size := range 2000 {
		noise := make([]byte, size+1)
		split(t, "zeros", string(noise), nil, 0)
		r.Read(noise)
		noise[0] &= 3
		want, end := splitOf(string(noise))
		split(t, "noise", string(noise), want, end)
	}
}

// P16.1, Append: all frames stand behind what is there, in order, and are not sure; what was sure is.
func TestAppend(t *testing.T) {
	for _, ahead := range []string{"", "torn", framed("first"), framed("") + "\x00"} {
		for sure := range len(ahead) + 1 {
			for _, l := range few() {
				d := on(t, 1000, ahead, sure)
				add(t, "behind others", d, api.OK, l...)
				all, _ := allFramed(l)
				holds(t, "behind others", d, ahead+all, len(ahead)-sure+len(all))
				d.Fall(0)
				holds(t, "behind a fall", d, ahead[:sure], 0)
			}
		}
	}
	d := disk.New(1 << 16)
	want := ""
	for _, size := range sizes() {
		add(t, "all sizes", d, api.OK, row(size), row(1024-size))
		want += framed(row(size)) + framed(row(1024-size))
		holds(t, "all sizes", d, want, len(want))
	}
}

// P16.1, Append: one by one, or all at once, is one.
func TestAppendOneByOne(t *testing.T) {
	for _, l := range few() {
		once, each := disk.New(99), disk.New(99)
		add(t, "once", once, api.OK, l...)
		for _, s := range l {
			add(t, "each", each, api.OK, s)
		}
		holds(t, "each", each, string(once.Octets()), once.Fresh())
	}
}

// P16.1, Append: without room for all frames at once ErrFull, and none of them is there.
func TestAppendFull(t *testing.T) {
	for _, l := range append(few(), []string{row(1024), row(256), row(3)}) {
		all, _ := allFramed(l)
		for _, ahead := range []string{"", "ab", framed("first")} {
			for short := range len(all) + 1 {
				d := on(t, len(ahead)+len(all)-short, ahead, len(ahead)/2)
				fresh := d.Fresh()
				if short == 0 {
					add(t, "just room", d, api.OK, l...)
					holds(t, "just room", d, ahead+all, fresh+len(all))
				} else {
					add(t, "no room", d, api.ErrFull, l...)
					holds(t, "no room", d, ahead, fresh)
				}
				add(t, "nothing more", d, api.OK)
				add(t, "too long and too much", d, api.ErrLong, append(slices.Clone(l), row(1025))...)
			}
		}
	}
	for _, room := range []int{0, 1, 5, 6, 7} {
		d := disk.New(room)
		if got, want := Append(d, nil), room >= 6; (got == api.OK) != want || (got == api.ErrFull) == want {
			t.Errorf("room %d: the empty record: %d", room, got)
		}
	}
}

// P16.1, Append: as much as there may be on a disk.
func TestAppendMost(t *testing.T) {
	many := 1 << 16 / 1030
	l := slices.Repeat([]string{row(1024)}, many)
	rest := 1<<16 - many*1030
	d := disk.New(1 << 16)
	add(t, "one too many", d, api.ErrFull, append(slices.Clone(l), row(rest-5))...)
	holds(t, "one too many", d, "", 0)
	l = append(l, row(rest-6))
	add(t, "all room", d, api.OK, l...)
	add(t, "full", d, api.ErrFull, "")
	load(t, "all room", d, l)
	d = disk.New(1 << 16)
	empty := slices.Repeat([]string{""}, 1<<16/6)
	add(t, "empty ones", d, api.OK, empty...)
	add(t, "no room for one more", d, api.ErrFull, "")
	load(t, "empty ones", d, empty)
	add(t, "more than any disk has", d, api.ErrFull, slices.Repeat([]string{row(1024)}, 3000)...)
	load(t, "as it was", d, empty)
}

// P16.1, Append: Frame's error, wherever the one that is too long stands, and nothing is written; ahead of Write's.
func TestAppendLong(t *testing.T) {
	for _, size := range tooLong() {
		for place := range 4 {
			for _, room := range []int{0, 8, 500, 1 << 16} {
				l := slices.Insert([]string{"a", "", "xyz"}, place, row(size))
				d := on(t, room, "12345678"[:min(room, 8)], min(room, 3))
				before, fresh := string(d.Octets()), d.Fresh()
				add(t, fmt.Sprintf("%d octets at %d", size, place), d, api.ErrLong, l...)
				holds(t, "too long", d, before, fresh)
			}
		}
	}
	d := disk.New(1 << 16)
	add(t, "the longest", d, api.OK, row(1024), row(1024))
	add(t, "two too long", d, api.ErrLong, row(1025), row(1025))
	load(t, "the longest", d, []string{row(1024), row(1024)})
}

// nobodys are disks that nobody made.
func nobodys() map[string]*disk.Disk {
	return map[string]*disk.Disk{"nil": nil, "zero": {}, "new": new(disk.Disk)}
}

// P16.1: of a disk that nobody made ErrState, ahead of all else, and nothing; and it stays one that nobody made.
func TestNobodyMade(t *testing.T) {
	for name, d := range nobodys() {
		for range 2 {
			add(t, name, d, api.ErrState)
			add(t, name, d, api.ErrState, "")
			add(t, name, d, api.ErrState, "a", "b")
			add(t, name, d, api.ErrState, row(1025))
			add(t, name, d, api.ErrState, "a", row(1<<17), "b")
			if l, err := Load(d); err != api.ErrState || len(l) != 0 {
				t.Errorf("%s: Load tells %q, %d", name, l, err)
			}
			if d.Write([]byte{1}) != api.ErrState || len(d.Octets()) != 0 {
				t.Errorf("%s: somebody made it", name)
			}
		}
	}
}

// P16.1, Load: what Split tells; what is behind is gone, what is left sure, and what is appended then follows.
func TestLoad(t *testing.T) {
	for _, l := range append(few(), []string{row(1024), "", row(257)}) {
		all, _ := allFramed(l)
		for _, behind := range []string{"", "\x00", "torn", framed("abc")[:8], "\x00\x00\x00\x00\x00\x00", framed(row(1025)), "\xff" + framed("behind")} {
			for _, sure := range []int{0, len(all) / 2, len(all), len(all + behind)} {
				d := on(t, len(all+behind), all+behind, sure)
				load(t, "at first", d, l)
				load(t, "again", d, l)
				d.Fall(0)
				load(t, "behind a fall", d, l)
				if len(behind) >= 6 {
					add(t, "there is room again", d, api.OK, "")
					load(t, "one more", d, append(slices.Clone(l), ""))
				} else {
					add(t, "there is no room", d, api.ErrFull, "")
				}
			}
		}
	}
}

// P16.1, Load: of octets of any kind what the second writing tells.
func TestLoadAnything(t *testing.T) {
	r := rand.New(rand.NewSource(162))
	for range 5000 {
		b := anyOctets(r)
		want, _ := splitOf(b)
		d := on(t, len(b)+300, b, r.Intn(len(b)+1))
		load(t, "any octets", d, want)
		add(t, "any octets", d, api.OK, "more", row(200))
		load(t, "and more", d, append(want, "more", row(200)))
	}
}

// P16.2: behind a fall a beginning of the records is there, with all that were sure, wherever the last ones were torn.
func TestFall(t *testing.T) {
	for _, l := range append(few(), []string{row(40), row(1), row(300), "", row(9)}) {
		all, ends := allFramed(l)
		for sure := range len(l) + 1 {
			least := append([]int{0}, ends...)[sure]
			for keep := -1; keep <= len(all)-least+1; keep++ {
				d := disk.New(9999)
				add(t, "sure", d, api.OK, l[:sure]...)
				d.Sync()
				add(t, "not sure", d, api.OK, l[sure:]...)
				d.Fall(keep)
				left := sure
				for left < len(l) && ends[left] <= least+max(keep, 0) {
					left++
				}
				what := fmt.Sprintf("%d of %d are sure, Fall(%d)", sure, len(l), keep)
				load(t, what, d, l[:left])
				add(t, what, d, api.OK, "behind", "")
				load(t, what+", and more", d, append(slices.Clone(l[:left]), "behind", ""))
			}
		}
	}
}

// P16.2: over many falls, at random: what was sure is there, and behind it a beginning of what was not.
func TestManyFalls(t *testing.T) {
	r := rand.New(rand.NewSource(163))
	torn, full := 0, 0
	for run := range 200 {
		d := disk.New(200 + 20*run)
		var there []string
		sure, count := 0, 0
		for range 60 {
			switch r.Intn(5) {
			case 0:
				d.Sync()
				sure = len(there)
			case 1:
				fresh := d.Fresh()
				d.Fall(r.Intn(fresh + 3))
				got, err := Load(d)
				if err != api.OK || len(got) < sure || len(got) > len(there) || !slices.Equal(texts(got), there[:len(got)]) {
					t.Fatalf("%.80q is there, %d, want a beginning of %.80q, with the first %d", got, err, there, sure)
				}
				torn += len(there) - len(got)
				there = there[:len(got)]
				sure = len(there)
			default:
				var l []string
				for range r.Intn(4) {
					count++
					l = append(l, fmt.Sprint(count)+row(r.Intn(40)))
				}
				want, more := api.OK, slices.Concat(there, l)
				if all, _ := allFramed(more); len(all) > 200+20*run {
					want, more = api.ErrFull, there
					full++
				}
				add(t, "at random", d, want, l...)
				there = more
			}
			if got, end := Split(d.Octets()); !slices.Equal(texts(got), there) || end != len(d.Octets()) {
				t.Fatalf("%.80q up to %d, want %.80q", got, end, there)
			}
		}
	}
	if torn < 1000 || full < 200 {
		t.Errorf("too little was torn, or had no room: %d, %d", torn, full)
	}
}

// spoil writes over all of a list, as far as it has room.
func spoil(b []byte) {
	for place := range b[:cap(b)] {
		b[:cap(b)][place] = '!'
	}
}

// spoilAll writes over all of a list of records, as far as they have room, and puts others behind them.
func spoilAll(l [][]byte) {
	for place, b := range l {
		spoil(b)
		l[place] = append(b, "more"...)
	}
	for place := range l[:cap(l)] {
		l[:cap(l)][place] = []byte("another")
	}
}

// P16.3: what is handed to Frame is not changed, nor kept; its answer is new memory.
func TestMemoryOfFrame(t *testing.T) {
	for _, size := range sizes() {
		b := []byte(row(size) + "behind")
		first, _ := Frame(b[:size])
		second, _ := Frame(b[:size])
		if string(b) != row(size)+"behind" {
			t.Fatalf("%d octets: what was handed in is changed", size)
		}
		spoil(first)
		if string(b) != row(size)+"behind" || string(second) != framed(row(size)) {
			t.Fatalf("%d octets: an answer shares memory", size)
		}
		spoil(b)
		if string(second) != framed(row(size)) {
			t.Fatalf("%d octets: what was handed in is kept", size)
		}
	}
}

// P16.3: what is handed to Split is not changed, nor kept; what it tells is new memory, each record by itself.
func TestMemoryOfSplit(t *testing.T) {
	for _, l := range append(few(), []string{row(7), row(8), row(9), row(64), row(1024)}) {
		all, _ := allFramed(l)
		b := []byte(all + "torn" + strings.Repeat("room", 9))
		first, _ := Split(b[:len(all)+4])
		second, _ := Split(b[:len(all)+4])
		spoilAll(first)
		if string(b[:len(all)+4]) != all+"torn" || !slices.Equal(texts(second), l) {
			t.Fatalf("%q: an answer shares memory", l)
		}
		spoil(b)
		if !slices.Equal(texts(second), l) {
			t.Fatalf("%q: what was handed in is kept", l)
		}
		for place := range second {
			spoil(second[place])
			second[place] = append(second[place], "more"...)
			if !slices.Equal(texts(second[place+1:]), l[place+1:]) {
				t.Fatalf("%q: record %d shares memory with another", l, place)
			}
		}
	}
}

// P16.3: what is handed to Append is not changed, nor kept, neither the list nor the records.
func TestMemoryOfAppend(t *testing.T) {
	for _, room := range []int{0, 10, 9999} {
		for _, l := range append(few(), []string{row(7), row(1024)}, []string{"a", row(1025), "b"}) {
			given := append(lists(l), []byte("room"))[:len(l)]
			before := lists(l)
			d := disk.New(room)
			d.Write([]byte("ab"))
			Append(d, given...)
			for place := range given {
				if !bytes.Equal(given[place], before[place]) || (given[place] == nil) != (before[place] == nil) {
					t.Fatalf("%.60q: what was handed in is changed", l)
				}
			}
			if string(given[:len(l)+1][len(l)]) != "room" {
				t.Fatalf("%.60q: what was handed in is changed", l)
			}
			want := string(d.Octets())
			spoilAll(given)
			holds(t, "written over", d, want, len(want))
		}
	}
	// One record may be handed in twice, and as a part of another.
	d, b := disk.New(99), []byte("abcdef")
	if err := Append(d, b, b[1:3], b, b[:0], b[3:]); err != api.OK || string(b) != "abcdef" {
		t.Errorf("%d, %q", err, b)
	}
	load(t, "parts of one", d, []string{"abcdef", "bc", "abcdef", "", "def"})
}

// P16.3: what Load tells is new memory: written over, and the disk is as it was; and no later call changes it.
func TestMemoryOfLoad(t *testing.T) {
	for _, l := range append(few(), []string{row(7), row(8), row(1024)}) {
		all, _ := allFramed(l)
		d := on(t, 9999, all+"torn", len(all)/2)
		first, _ := Load(d)
		second, _ := Load(d)
		spoilAll(first)
		holds(t, "written over", d, all, 0)
		if !slices.Equal(texts(second), l) {
			t.Fatalf("%q: an answer shares memory", l)
		}
		d.Trim(0)
		Append(d, []byte("another"), []byte(row(99)))
		Load(d)
		if !slices.Equal(texts(second), l) {
			t.Fatalf("%q: a later call changes an answer", l)
		}
		// What is told may be appended again.
		e := disk.New(len(all))
		if err := Append(e, second...); err != api.OK {
			t.Fatalf("%q: appended again: %d", l, err)
		}
		load(t, "appended again", e, l)
	}
}

// P3: a journal knows nothing of another one, nor of what was told of it.
func TestTwoJournals(t *testing.T) {
	a, b := disk.New(3000), disk.New(3000)
	var l []string
	for n := range 60 {
		l = append(l, row(n/2))
		add(t, "a", a, api.OK, l[n])
		add(t, "b", b, api.OK, "b", l[n])
		b.Fall(n)
		Load(b)
		Split(a.Octets()[n%7:])
		if _, err := Frame([]byte(row(1025))); err != api.ErrLong {
			t.Fatalf("too long: %d", err)
		}
		if n%9 == 0 {
			load(t, "a", a, l)
		}
	}
	load(t, "a", a, l)
}

// P1: no call panics, whatever it is given.
func TestAnything(t *testing.T) {
	r := rand.New(rand.NewSource(164))
	for range 3000 {
		noise := make([]byte, r.Intn(3000))
		r.Read(noise)
		disks := []*disk.Disk{nil, {}, disk.New(r.Intn(4000) - 200), on(t, 3000, string(noise), r.Intn(len(noise)+1))}
		d := disks[r.Intn(len(disks))]
		var l [][]byte
		for range r.Intn(4) {
			l = append(l, noise[r.Intn(len(noise)+1):])
		}
		err := Append(d, l...)
		if got, end := Split(noise); end < 0 || end > len(noise) || len(got) > end/6 {
			t.Fatalf("%d records up to %d of %d octets", len(got), end, len(noise))
		}
		if got, again := Load(d); (again == api.ErrState) != (err == api.ErrState) || again != api.OK && len(got) != 0 {
			t.Fatalf("Append tells %d, Load %d and %d records", err, again, len(got))
		}
	}
}
