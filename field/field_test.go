package field

import (
	"bytes"
	"encoding/binary"
	"math"
	"math/big"
	"math/rand"
	"slices"
	"strconv"
	"strings"
	"testing"

	"narrows/api"
)

// numbers may be fields: edges of each octet, and the greatest.
func numbers() []int {
	l := []int{0, 1, 2, 127, 128, 255, 256, 258, 1<<40 - 1, 1 << 40}
	for bit := range 40 {
		l = append(l, 1<<bit, 1<<bit+1, 1<<(bit+1)-1)
	}
	return l
}

// noNumbers may not be fields; the lowest 48 or 41 bits of some could.
func noNumbers() []int {
	return []int{-1, -2, -256, -(1 << 40), -(1 << 48), -(1 << 48) + 1, math.MinInt, math.MinInt + 1, 1<<40 + 1, 1 << 41, 1<<41 + 1, 1<<48 - 1, 1 << 48, 1<<48 + 1, 1 << 62, math.MaxInt}
}

// texts may be fields: short ones, of octets that are no letters, and the longest.
func texts() []string {
	l := []string{"", "\x00", "\xff", "a", "inv", "\xff\xfe\x00\x80", "äöü\u2028"}
	for _, n := range []int{2, 16, 127, 128, 255, 256, 257, 511, 512, 1022, 1023, 1024} {
		l = append(l, row(n))
	}
	return l
}

// wides are numbers whose words and octets are all unlike, and edges.
func wides() []api.Wide {
	m := uint64(math.MaxUint64)
	return []api.Wide{
		{}, {1}, {0, 1}, {0, 0, 1}, {0, 0, 0, 1}, {m}, {0, 0, 0, m}, {m, m, m, m},
		{0x0102030405060708, 0x1112131415161718, 0x2122232425262728, 0x3132333435363738},
	}
}

// row is n octets, none like the one next to it, with no period of 256.
func row(n int) string {
	b := make([]byte, n)
	for i := range b {
		b[i] = byte(i + i/256 + 1)
	}
	return string(b)
}

// numOf, textOf and wideOf are the octets of fields, written a second time on the standard library.
func numOf(n int) []byte {
	return binary.BigEndian.AppendUint64(nil, uint64(n))[2:]
}

func textOf(s string) []byte {
	return append(binary.BigEndian.AppendUint16(nil, uint16(len(s))), s...)
}

func wideOf(a api.Wide) []byte {
	var n big.Int
	for i, word := range a {
		n.Or(&n, new(big.Int).Lsh(new(big.Int).SetUint64(word), uint(64*i)))
	}
	return n.FillBytes(make([]byte, 32))
}

// put is an Out that was told so.
func put(tell ...func(*Out)) *Out {
	w := New()
	for _, f := range tell {
		f(w)
	}
	return w
}

func num(n int) func(*Out)       { return func(w *Out) { w.Num(n) } }
func text(s string) func(*Out)   { return func(w *Out) { w.Text(s) } }
func wide(a api.Wide) func(*Out) { return func(w *Out) { w.Wide(a) } }

// fill puts so many octets into an Out, at least 2, as texts.
func fill(n int) func(*Out) {
	return func(w *Out) {
		for n > 1026+2 {
			w.Text(row(1024))
			n -= 1026
		}
		if n > 1026 {
			w.Text("")
			n -= 2
		}
		w.Text(row(n - 2))
	}
}

// done fails unless all that w took is want.
func done(t *testing.T, what string, w *Out, want []byte) {
	t.Helper()
	if b, err := w.Done(); err != api.OK || !bytes.Equal(b, want) {
		t.Fatalf("%s: %d octets %.40x, %d; want %d octets %.40x", what, len(b), b, err, len(want), want)
	}
}

// failed fails unless w tells want and nothing.
func failed(t *testing.T, what string, w *Out, want api.Errno) {
	t.Helper()
	if b, err := w.Done(); err != want || len(b) != 0 {
		t.Fatalf("%s: %d octets, %d; want %d", what, len(b), err, want)
	}
}

// good fails unless r has no error, and so many octets left.
func good(t *testing.T, what string, r *In, left int) {
	t.Helper()
	if r.Err() != api.OK || r.Left() != left {
		t.Fatalf("%s: %d, %d left; want %d left", what, r.Err(), r.Left(), left)
	}
}

// bad fails unless r has the error want, nothing is left, and all that is read is zero, whatever is asked, also behind a Spoil.
func bad(t *testing.T, what string, r *In, want api.Errno) {
	t.Helper()
	for range 2 {
		if r.Err() != want || r.Left() != 0 {
			t.Fatalf("%s: %d, %d left; want %d", what, r.Err(), r.Left(), want)
		}
		for _, most := range mosts() {
			if n, s, a := r.Num(most), r.Text(most), r.Wide(); n != 0 || s != "" || a != (api.Wide{}) {
				t.Fatalf("%s: behind the error %d, %q, %x are read", what, n, s, a)
			}
		}
		if r.Err() != want || r.Left() != 0 {
			t.Fatalf("%s: behind reads %d, %d left; want %d", what, r.Err(), r.Left(), want)
		}
		r.Spoil()
	}
}

// mosts are what may be said of a field that is read.
func mosts() []int {
	return []int{math.MinInt, -1, 0, 1, 8, 16, 1023, 1024, 1025, 65535, 1<<40 - 1, 1 << 40, 1<<40 + 1, math.MaxInt}
}

// P6.1: a number is 6 octets, the highest first.
func TestOutNum(t *testing.T) {
	done(t, "the chapter's example", put(num(1)), []byte{0, 0, 0, 0, 0, 1})
	done(t, "unlike octets", put(num(0x0a0b0c0d0e)), []byte{0, 10, 11, 12, 13, 14})
	done(t, "the greatest", put(num(1<<40)), []byte{1, 0, 0, 0, 0, 0})
	for _, n := range numbers() {
		done(t, strconv.Itoa(n), put(num(n)), numOf(n))
	}
}

// P6.1: a number that is not from 0 to MaxNum is ErrRange.
func TestOutNoNum(t *testing.T) {
	for _, n := range noNumbers() {
		failed(t, strconv.Itoa(n), put(num(n)), api.ErrRange)
		failed(t, "behind others "+strconv.Itoa(n), put(num(1), text("a"), num(n)), api.ErrRange)
	}
}

// P6.1: a text is its length in 2 octets, and it.
func TestOutText(t *testing.T) {
	done(t, "three letters", put(text("inv")), []byte{0, 3, 'i', 'n', 'v'})
	done(t, "no letters", put(text("")), []byte{0, 0})
	for _, s := range texts() {
		done(t, strconv.Itoa(len(s))+" octets", put(text(s)), textOf(s))
	}
}

// P6.1: a text of more than MaxText octets is ErrLong.
func TestOutLongText(t *testing.T) {
	for _, n := range []int{1025, 1026, 2048, 8190, 8192, 65535, 65536, 65539, 1 << 24} {
		failed(t, strconv.Itoa(n)+" octets", put(text(strings.Repeat("x", n))), api.ErrLong)
	}
	failed(t, "fewer runes than MaxText", put(text(strings.Repeat("ä", 513))), api.ErrLong)
}

// P6.1: a wide one is 32 octets, the highest first.
func TestOutWide(t *testing.T) {
	for _, a := range wides() {
		done(t, "wide", put(wide(a)), wideOf(a))
	}
}

// P6.1: all fields are there, in the order in which they came.
func TestOutAll(t *testing.T) {
	done(t, "nothing", New(), nil)
	a := wides()[8]
	want := slices.Concat(numOf(7), textOf("b"), wideOf(a), textOf(""), numOf(1<<40))
	done(t, "five fields", put(num(7), text("b"), wide(a), text(""), num(1<<40)), want)
}

// P6.1: Done tells what was taken till then, again and again, and more may come behind it.
func TestOutGoesOnBehindDone(t *testing.T) {
	w, want := New(), []byte(nil)
	for n := range 20 {
		done(t, "first", w, want)
		done(t, "again", w, want)
		w.Num(n)
		want = append(want, numOf(n)...)
		w.Text(row(n))
		want = append(want, textOf(row(n))...)
	}
}

// P6.1: all may be MaxOctets, whatever is the last field; with one octet more it is ErrLong.
func TestOutFull(t *testing.T) {
	last := map[string]struct {
		tell   func(*Out)
		octets []byte
	}{
		"a number":           {num(5), numOf(5)},
		"a text":             {text("abc"), textOf("abc")},
		"an empty text":      {text(""), textOf("")},
		"the longest text":   {text(row(1024)), textOf(row(1024))},
		"a wide one":         {wide(api.Wide{9}), wideOf(api.Wide{9})},
		"a wide one of zero": {wide(api.Wide{}), wideOf(api.Wide{})},
	}
	for what, l := range last {
		rest := 8192 - len(l.octets)
		before, err := put(fill(rest)).Done()
		if err != api.OK || len(before) != rest {
			t.Fatalf("%s: %d octets ahead, %d", what, len(before), err)
		}
		done(t, what, put(fill(rest), l.tell), append(before, l.octets...))
		failed(t, what+", one octet too many", put(fill(rest+1), l.tell), api.ErrLong)
		failed(t, what+", all octets too many", put(fill(8192), l.tell), api.ErrLong)
	}
}

// P6.1: behind an error nothing is taken, also what would have room; the first error stays.
func TestOutTakesNothingBehindAnError(t *testing.T) {
	more := []func(*Out){num(1), text(""), text("a"), wide(api.Wide{1}), num(-1), num(1<<40 + 1), text(row(1025))}
	first := map[string]struct {
		w    *Out
		want api.Errno
	}{
		"a wrong number": {put(num(-1)), api.ErrRange},
		"a long text":    {put(text(row(1025))), api.ErrLong},
		"too many":       {put(fill(8187), num(1)), api.ErrLong},
	}
	for what, f := range first {
		for range 3 {
			for _, tell := range more {
				failed(t, what, f.w, f.want)
				tell(f.w)
			}
		}
	}
}

// P6.1, and P4 of DOC.md: where a number is wrong and there is no room, ErrRange goes ahead.
func TestOutOrderOfErrors(t *testing.T) {
	for _, n := range noNumbers() {
		failed(t, "full, "+strconv.Itoa(n), put(fill(8192), num(n)), api.ErrRange)
	}
	failed(t, "full, a long text", put(fill(8192), text(row(1025))), api.ErrLong)
}

// P6.2: a number is read that is not above most.
func TestInNum(t *testing.T) {
	for _, n := range numbers() {
		for _, most := range []int{n, n + 1, 1 << 40, 1<<40 + 1, math.MaxInt} {
			r := Open(append(numOf(n), 200, 201, 202))
			if got := r.Num(most); got != n {
				t.Fatalf("Num(%d) of %d = %d", most, n, got)
			}
			good(t, "behind a number", r, 3)
		}
	}
}

// P6.2: a number above most is ErrRange, and one above MaxNum, whatever is said.
func TestInNumAboveMost(t *testing.T) {
	for _, n := range numbers() {
		for _, most := range []int{n - 1, n / 2, 0, -1, -n, math.MinInt} {
			if most >= n {
				continue
			}
			r := Open(slices.Concat(numOf(n), numOf(1), make([]byte, 100)))
			if got := r.Num(most); got != 0 {
				t.Fatalf("Num(%d) of %d = %d", most, n, got)
			}
			bad(t, "above "+strconv.Itoa(most), r, api.ErrRange)
		}
	}
	for _, n := range []int{1<<40 + 1, 1<<40 + 2, 1 << 41, 1 << 47, 1<<48 - 1} {
		for _, most := range []int{1 << 40, n, n + 1, 1 << 48, math.MaxInt} {
			r := Open(slices.Concat(numOf(n), make([]byte, 100)))
			if got := r.Num(most); got != 0 {
				t.Fatalf("Num(%d) of %d = %d", most, n, got)
			}
			bad(t, "above MaxNum", r, api.ErrRange)
		}
	}
}

// P6.2: a text is read that is not longer than most.
func TestInText(t *testing.T) {
	for _, s := range texts() {
		for _, most := range []int{len(s), len(s) + 1, 1024, 1025, 65535, math.MaxInt} {
			r := Open(append(textOf(s), 200, 201, 202))
			if got := r.Text(most); got != s {
				t.Fatalf("Text(%d) of %d octets = %d octets %.40x", most, len(s), len(got), got)
			}
			good(t, "behind a text", r, 3)
		}
	}
}

// P6.2: a text longer than most is ErrRange, and one longer than MaxText, whatever is said.
func TestInTextAboveMost(t *testing.T) {
	for _, s := range texts() {
		for _, most := range []int{len(s) - 1, len(s) / 2, 0, -1, -len(s), math.MinInt} {
			if most >= len(s) {
				continue
			}
			r := Open(slices.Concat(textOf(s), textOf(""), make([]byte, 100)))
			if got := r.Text(most); got != "" {
				t.Fatalf("Text(%d) of %d octets = %d octets", most, len(s), len(got))
			}
			bad(t, "longer than "+strconv.Itoa(most), r, api.ErrRange)
		}
	}
	for _, n := range []int{1025, 1026, 2048, 8190} {
		for _, most := range []int{1024, n, n + 1, 65535, 1 << 40, math.MaxInt} {
			r := Open(textOf(row(n)))
			if got := r.Text(most); got != "" {
				t.Fatalf("Text(%d) of %d octets = %d octets", most, n, len(got))
			}
			bad(t, "longer than MaxText", r, api.ErrRange)
		}
	}
}

// P6.2: a wide one is read.
func TestInWide(t *testing.T) {
	for _, a := range wides() {
		r := Open(append(wideOf(a), 200, 201, 202))
		if got := r.Wide(); got != a {
			t.Fatalf("Wide of %x = %x", a, got)
		}
		good(t, "behind a wide one", r, 3)
	}
}

// P6.2: with too few octets it is ErrSyntax, whatever most is, and nothing of them is read.
func TestInTooFew(t *testing.T) {
	full := bytes.Repeat([]byte{0, 1}, 16)
	for _, most := range mosts() {
		for n := range 6 {
			r := Open(full[:n])
			if got := r.Num(most); got != 0 {
				t.Fatalf("Num of %d octets = %d", n, got)
			}
			bad(t, "too few for a number", r, api.ErrSyntax)
		}
		for n := range 2 {
			r := Open(full[:n])
			if got := r.Text(most); got != "" {
				t.Fatalf("Text of %d octets = %q", n, got)
			}
			bad(t, "too few for a length", r, api.ErrSyntax)
		}
	}
	for n := range 32 {
		r := Open(full[:n])
		if got := r.Wide(); got != (api.Wide{}) {
			t.Fatalf("Wide of %d octets = %x", n, got)
		}
		bad(t, "too few for a wide one", r, api.ErrSyntax)
	}
	for _, s := range texts() {
		for n := range min(len(s), 300) {
			r := Open(textOf(s)[:2+len(s)-n-1])
			if got := r.Text(1024); got != "" {
				t.Fatalf("Text of %d octets less than %d = %q", n+1, len(s), got)
			}
			bad(t, "too few for a text", r, api.ErrSyntax)
		}
	}
}

// P6.2, and P4 of DOC.md: where a text is longer than most and too few octets are there, ErrRange goes ahead.
func TestInOrderOfErrors(t *testing.T) {
	for _, c := range []struct {
		length, most int
		want         api.Errno
	}{
		{5, 4, api.ErrRange}, {5, 5, api.ErrSyntax}, {1024, 1023, api.ErrRange}, {1024, 1024, api.ErrSyntax},
		{1024, math.MaxInt, api.ErrSyntax}, {1025, 1025, api.ErrRange}, {65535, math.MaxInt, api.ErrRange}, {3, -1, api.ErrRange},
	} {
		r := Open(append(binary.BigEndian.AppendUint16(nil, uint16(c.length)), 'a', 'b'))
		if got := r.Text(c.most); got != "" {
			t.Fatalf("Text(%d) of %d = %q", c.most, c.length, got)
		}
		bad(t, "a text that is not there", r, c.want)
	}
}

// P6.2: a field that is not there makes all zero that come behind it, though octets for them were left.
func TestInReadsNothingBehindAnError(t *testing.T) {
	r := Open(slices.Concat(numOf(7), []byte{0, 9}, numOf(8)))
	if n := r.Num(7); n != 7 {
		t.Fatalf("Num = %d", n)
	}
	good(t, "ahead of the error", r, 8)
	if s := r.Text(16); s != "" {
		t.Fatalf("Text = %q", s)
	}
	bad(t, "behind a text", r, api.ErrSyntax)
}

// P6.2, Left: it falls by the octets of each field.
func TestLeft(t *testing.T) {
	r := Open(slices.Concat(numOf(7), textOf("abc"), wideOf(api.Wide{1}), textOf("")))
	for _, left := range []int{45, 39, 34, 2, 0} {
		good(t, "on the way", r, left)
		switch left {
		case 45:
			r.Num(9)
		case 39:
			r.Text(9)
		case 34:
			r.Wide()
		case 2:
			r.Text(0)
		}
	}
	r.Text(0)
	bad(t, "at the end", r, api.ErrSyntax)
}

// P6.2, Open: of nothing, of MaxOctets, and with ErrLong at once of more.
func TestOpen(t *testing.T) {
	good(t, "nil", Open(nil), 0)
	good(t, "empty", Open([]byte{}), 0)
	for _, n := range []int{1, 6, 8191, 8192} {
		good(t, strconv.Itoa(n)+" octets", Open(make([]byte, n)), n)
	}
	for _, n := range []int{8193, 8194, 16384, 65536, 1 << 24} {
		bad(t, strconv.Itoa(n)+" octets", Open(make([]byte, n)), api.ErrLong)
	}
	r := Open(make([]byte, 8192))
	for range 8192 / 32 {
		r.Wide()
	}
	good(t, "all of MaxOctets read", r, 0)
}

// P6.2, Spoil: ErrSyntax from here on, if there was no error.
func TestSpoil(t *testing.T) {
	for _, b := range [][]byte{nil, numOf(1), make([]byte, 8192)} {
		r := Open(b)
		r.Spoil()
		bad(t, "spoilt at once", r, api.ErrSyntax)
	}
	r := Open(slices.Concat(numOf(1), numOf(2)))
	if n := r.Num(1); n != 1 {
		t.Fatalf("Num = %d", n)
	}
	r.Spoil()
	bad(t, "spoilt behind a number", r, api.ErrSyntax)
	r = Open(numOf(2))
	r.Num(1)
	r.Spoil()
	bad(t, "spoilt behind ErrRange", r, api.ErrRange)
}

// P6.2: of what nobody made nothing is taken, ErrState, 0.
func TestOfWhatNobodyMade(t *testing.T) {
	for what, w := range map[string]*Out{"nil": nil, "zero": {}, "new": new(Out)} {
		for _, tell := range []func(*Out){num(1), num(-1), text("a"), text(row(1025)), wide(api.Wide{1}), fill(9000)} {
			failed(t, what, w, api.ErrState)
			tell(w)
		}
		failed(t, what, w, api.ErrState)
	}
	for what, r := range map[string]*In{"nil": nil, "zero": {}, "new": new(In)} {
		bad(t, what, r, api.ErrState)
	}
}

// P6.3: whatever fields are put, as many as there is room for, come back, and nothing is left.
func TestFieldsComeBack(t *testing.T) {
	r := rand.New(rand.NewSource(6))
	for range 300 {
		w, all := New(), []any(nil)
		for size := 0; ; {
			x, octets := someField(r)
			if size += octets; size > 8192 {
				break
			}
			tellOf(x)(w)
			all = append(all, x)
		}
		b, err := w.Done()
		if err != api.OK {
			t.Fatalf("Done of %d fields: %d", len(all), err)
		}
		in := Open(b)
		for i, x := range all {
			if got := readLike(in, x); got != x {
				t.Fatalf("field %d of %d: %v came back as %v", i, len(all), x, got)
			}
		}
		good(t, "all came back", in, 0)
	}
}

// someField is any field, and how many octets it has.
func someField(r *rand.Rand) (any, int) {
	switch r.Intn(3) {
	case 0:
		return r.Intn(1<<40+1) >> r.Intn(41), 6
	case 1:
		b := make([]byte, r.Intn(1025)>>r.Intn(11))
		r.Read(b)
		return string(b), 2 + len(b)
	}
	return api.Wide{r.Uint64(), r.Uint64(), r.Uint64(), r.Uint64()}, 32
}

func tellOf(x any) func(*Out) {
	switch x := x.(type) {
	case int:
		return num(x)
	case string:
		return text(x)
	}
	return wide(x.(api.Wide))
}

// readLike reads a field of the kind that x is, with the least most that lets x through.
func readLike(in *In, x any) any {
	switch x := x.(type) {
	case int:
		return in.Num(x)
	case string:
		return in.Text(len(x))
	}
	return in.Wide()
}

// second is In, written a second time: a place in the octets, which an error ends.
type second struct {
	b   []byte
	at  int
	err api.Errno
}

func (s *second) piece(n int) []byte {
	if s.err == api.OK && s.at+n > len(s.b) {
		s.err = api.ErrSyntax
	}
	if s.err != api.OK {
		return nil
	}
	s.at += n
	return s.b[s.at-n : s.at]
}

func (s *second) number(octets, most, limit int) int {
	p := s.piece(octets)
	if p == nil {
		return 0
	}
	n := int(new(big.Int).SetBytes(p).Int64())
	if n > most || n > limit {
		s.err = api.ErrRange
		return 0
	}
	return n
}

func (s *second) text(most int) string {
	n := s.number(2, most, 1024)
	if s.err != api.OK {
		return ""
	}
	return string(s.piece(n))
}

func (s *second) wide() api.Wide {
	var a api.Wide
	if p := s.piece(32); p != nil {
		for i := range a {
			a[i] = binary.BigEndian.Uint64(p[24-8*i:])
		}
	}
	return a
}

func (s *second) left() int {
	if s.err != api.OK {
		return 0
	}
	return len(s.b) - s.at
}

// P6.2, and P1 of DOC.md: of any octets, read in any order with any most, In answers as the second writing does.
func TestInOfAnyOctets(t *testing.T) {
	r := rand.New(rand.NewSource(7))
	for n := range 5000 {
		b := make([]byte, r.Intn(200))
		for i := range b {
			if r.Intn(3) == 0 {
				b[i] = byte(r.Intn(256) >> r.Intn(8))
			}
		}
		in, want := Open(b), &second{b: b}
		for range 30 {
			most := r.Intn(1<<41)>>r.Intn(41) - r.Intn(2)
			switch r.Intn(30) {
			case 0:
				in.Spoil()
				if want.err == api.OK {
					want.err = api.ErrSyntax
				}
			case 1, 2, 3:
				if x, y := in.Wide(), want.wide(); x != y {
					t.Fatalf("%d: Wide %x, want %x", n, x, y)
				}
			case 4, 5, 6, 7, 8, 9, 10, 11, 12, 13, 14, 15:
				if x, y := in.Num(most), want.number(6, most, 1<<40); x != y {
					t.Fatalf("%d: Num(%d) %d, want %d", n, most, x, y)
				}
			default:
				if x, y := in.Text(most), want.text(most); x != y {
					t.Fatalf("%d: Text(%d) %q, want %q", n, most, x, y)
				}
			}
			if in.Err() != want.err || in.Left() != want.left() {
				t.Fatalf("%d: %d, %d left; want %d, %d left", n, in.Err(), in.Left(), want.err, want.left())
			}
		}
	}
}

// P6.4, P2 of DOC.md: what is handed to Open is not changed, nor what lies around it, and not kept.
func TestOpenKeepsACopy(t *testing.T) {
	a := wides()[8]
	all := slices.Concat(numOf(7), textOf("abc"), wideOf(a))
	whole := slices.Concat([]byte{1, 2}, all, make([]byte, 60))
	part, before := whole[2:2+len(all)], slices.Clone(whole)
	r := Open(part)
	n, s := r.Num(9), r.Text(9)
	r.Wide()
	r.Num(0)
	if !bytes.Equal(whole, before) {
		t.Fatalf("%x became %x", before, whole)
	}
	r = Open(part)
	for i := range whole {
		whole[i] ^= 0xff
	}
	if x, y, z := r.Num(9), r.Text(9), r.Wide(); n != 7 || s != "abc" || x != 7 || y != "abc" || z != a {
		t.Errorf("what is read changed with what was handed in: %d, %q, %x", x, y, z)
	}
	good(t, "behind all", r, 0)
}

// The chapter's way: what is lent ends with its capacity, so that what is put behind it does not reach what is left.
func TestLentReachesNoFurther(t *testing.T) {
	r := Open(slices.Concat(numOf(7), numOf(8)))
	lent := r.lend(6)
	if len(lent) != 6 || cap(lent) != 6 {
		t.Errorf("%d octets are lent, up to %d", len(lent), cap(lent))
	}
	_ = append(lent, 9, 9, 9, 9, 9, 9)
	if n := r.Num(9); n != 8 {
		t.Errorf("behind what is lent %d is read", n)
	}
}

// P6.4, P2 of DOC.md: answers of Done share nothing with the Out, nor with each other, up to their capacity.
func TestDoneIsNewMemory(t *testing.T) {
	w, want := New(), []byte(nil)
	var earlier, kept [][]byte
	for n := range 60 {
		w.Num(n)
		want = append(want, numOf(n)...)
		b, _ := w.Done()
		earlier, kept = append(earlier, b), append(kept, slices.Clone(b))
		spoilt, _ := w.Done()
		for i := range spoilt[:cap(spoilt)] {
			spoilt[:cap(spoilt)][i] ^= 0xff
		}
		done(t, "behind a spoilt answer", w, want)
	}
	for i := range earlier {
		if !bytes.Equal(earlier[i], kept[i]) {
			t.Fatalf("answer %d changed behind its call", i)
		}
	}
}

// P3 of DOC.md: a copy of an object goes on alone; neither sees what the other one is told.
func TestCopiesGoOnAlone(t *testing.T) {
	for n := range 40 {
		w := put(fill(2 + n))
		before, _ := w.Done()
		other := *w
		w.Num(1)
		other.Num(2)
		done(t, "the first", w, append(slices.Clone(before), numOf(1)...))
		done(t, "the copy", &other, append(slices.Clone(before), numOf(2)...))
	}
	r := Open(slices.Concat(numOf(1), numOf(2)))
	other := *r
	if r.Num(9) != 1 || other.Num(9) != 1 || other.Num(9) != 2 || r.Num(9) != 2 {
		t.Error("two copies read from one place")
	}
}

// P3 of DOC.md: the same again answers the same, also side by side.
func TestSideBySide(t *testing.T) {
	all := func() string {
		var out strings.Builder
		for _, s := range texts() {
			w := put(text(s), num(len(s)), wide(wides()[8]))
			b, err := w.Done()
			r := Open(b)
			out.WriteString(strconv.Itoa(int(err)) + string(b) + r.Text(1024) + strconv.Itoa(r.Num(1024)) + strconv.FormatUint(r.Wide()[3], 16))
		}
		return out.String()
	}
	want := all()
	same := make(chan bool)
	for range 4 {
		go func() { same <- all() == want }()
	}
	for range 4 {
		if !<-same {
			t.Error("answers differ when calls run side by side")
		}
	}
}
