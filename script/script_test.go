package script

import (
	"bytes"
	"fmt"
	"math"
	"reflect"
	"slices"
	"strings"
	"testing"

	"narrows/api"
	"narrows/deal"
	"narrows/escrow"
	"narrows/world"
)

// told is a script as one text, nil and empty Data alike.
func told(l []api.Step) string {
	var b strings.Builder
	for _, x := range l {
		fmt.Fprintf(&b, "%d %d %d %d %q\n", x.Kind, x.A, x.B, x.C, x.Data)
	}
	return b.String()
}

// copied is a script that shares nothing with l.
func copied(l []api.Step) []api.Step {
	l = slices.Clone(l)
	for i := range l {
		l[i].Data = bytes.Clone(l[i].Data)
	}
	return l
}

// many is n steps of nothing but a kind.
func many(n int) []api.Step {
	l := make([]api.Step, n)
	for i := range l {
		l[i].Kind = i % 256
	}
	return l
}

// with is a step with n octets of Data.
func with(n int) api.Step {
	return api.Step{Kind: 7, A: 1, Data: bytes.Repeat([]byte{9}, n)}
}

// puts fails, unless the octets of l are those, and are read as l again.
func puts(t *testing.T, name string, l []api.Step, want ...byte) {
	t.Helper()
	b, err := Put(l)
	if err != api.OK || !bytes.Equal(b, want) {
		t.Errorf("%s: put as %d, %d; want %d", name, b, err, want)
	}
	back, err := Read(want)
	if err != api.OK || told(back) != told(l) {
		t.Errorf("%s: read as %v, %d; want %v", name, back, err, l)
	}
}

// refused fails, unless Put tells that error and nothing else.
func refused(t *testing.T, name string, l []api.Step, want api.Errno) {
	t.Helper()
	b, err := Put(l)
	if err != want || (err != api.OK) != (b == nil) && len(l) > 0 {
		t.Errorf("%s: put as %d octets, %d; want %d", name, len(b), err, want)
	}
}

// unread fails, unless Read tells that error and nothing else.
func unread(t *testing.T, name string, b []byte, want api.Errno) {
	t.Helper()
	l, err := Read(b)
	if err != want || err != api.OK && l != nil {
		t.Errorf("%s: read as %d steps, %d; want %d", name, len(l), err, want)
	}
}

// octetsOf is the octets of a script that may be.
func octetsOf(t *testing.T, l []api.Step) []byte {
	t.Helper()
	b, err := Put(l)
	if err != api.OK {
		t.Fatal(err)
	}
	return b
}

// P25.1, P25.2: each number in its octets, the highest first, A, B, C with 32768; how many Data has, and it; one step behind the other; of none nothing.
func TestOctets(t *testing.T) {
	puts(t, "nothing", nil)
	puts(t, "no steps", []api.Step{})
	puts(t, "the chapter's", []api.Step{{Kind: 3}}, 3, 128, 0, 128, 0, 128, 0, 0, 0)
	puts(t, "zero", []api.Step{{}}, 0, 128, 0, 128, 0, 128, 0, 0, 0)
	puts(t, "no Data", []api.Step{{Data: []byte{}}}, 0, 128, 0, 128, 0, 128, 0, 0, 0)
	puts(t, "lowest", []api.Step{{A: -32768, B: -32768, C: -32768}}, 0, 0, 0, 0, 0, 0, 0, 0, 0)
	puts(t, "highest", []api.Step{{Kind: 255, A: 32767, B: 32767, C: 32767}}, 255, 255, 255, 255, 255, 255, 255, 0, 0)
	puts(t, "each its own", []api.Step{{Kind: 9, A: -1, B: 258, C: -32767, Data: []byte("ab")}}, 9, 127, 255, 129, 2, 0, 1, 0, 2, 'a', 'b')
	puts(t, "two", []api.Step{{Kind: 1, Data: []byte{0}}, {Kind: 2, A: 1}},
		1, 128, 0, 128, 0, 128, 0, 0, 1, 0,
		2, 128, 1, 128, 0, 128, 0, 0, 0)
	puts(t, "Data like a step", []api.Step{{Kind: 1, Data: make([]byte, 9)}, {Kind: 1}},
		1, 128, 0, 128, 0, 128, 0, 0, 9, 0, 0, 0, 0, 0, 0, 0, 0, 0,
		1, 128, 0, 128, 0, 128, 0, 0, 0)
	puts(t, "much Data", []api.Step{with(258)}, append([]byte{7, 128, 1, 128, 0, 128, 0, 1, 2}, bytes.Repeat([]byte{9}, 258)...)...)
}

// P25.1, P25.2: every number that has room is put in its place, and comes back.
func TestEveryNumber(t *testing.T) {
	for kind := range 256 {
		puts(t, "kind", []api.Step{{Kind: kind}}, byte(kind), 128, 0, 128, 0, 128, 0, 0, 0)
	}
	for n := -32768; n <= 32767; n++ {
		high, low := byte((n+32768)/256), byte((n+32768)%256)
		puts(t, "A", []api.Step{{A: n}}, 0, high, low, 128, 0, 128, 0, 0, 0)
		puts(t, "B", []api.Step{{B: n}}, 0, 128, 0, high, low, 128, 0, 0, 0)
		puts(t, "C", []api.Step{{C: n}}, 0, 128, 0, 128, 0, high, low, 0, 0)
	}
}

// P25.1, Put: ErrRange of any number of any step that has no room, to the greatest.
func TestPutRange(t *testing.T) {
	odd := []int{math.MinInt, math.MinInt + 1, math.MinInt + 32768, -1 << 40, -65537, -65536, -32770, -32769, 32768, 32769, 65535, 65536, 1 << 32, 1 << 40, math.MaxInt - 32768, math.MaxInt - 32767, math.MaxInt - 1, math.MaxInt}
	for place := range 3 {
		for _, n := range odd {
			for name, x := range map[string]api.Step{"A": {A: n}, "B": {B: n}, "C": {C: n}, "Kind": {Kind: n}} {
				l := many(3)
				l[place] = x
				refused(t, fmt.Sprint(name, " of ", n, " at ", place), l, api.ErrRange)
			}
		}
		for _, n := range []int{-32768, -256, -255, -2, -1, 256, 257, 32767, 32768} {
			l := many(3)
			l[place].Kind = n
			refused(t, fmt.Sprint("Kind ", n, " at ", place), l, api.ErrRange)
		}
		for _, n := range []int{-32768, 32767} {
			l := many(3)
			l[place] = api.Step{Kind: 255, A: n, B: n, C: n}
			refused(t, fmt.Sprint(n, " at ", place), l, api.OK)
		}
	}
}

// P25.1, Put: how many steps, how much Data, and how much of all there may be.
func TestPutMuch(t *testing.T) {
	refused(t, "512 steps", many(512), api.OK)
	refused(t, "513 steps", many(513), api.ErrCount)
	refused(t, "1000 steps", many(1000), api.ErrCount)
	for place := range 3 {
		l := many(3)
		for n, want := range map[int]api.Errno{1023: api.OK, 1024: api.OK, 1025: api.ErrLong, 1026: api.ErrLong, 8192: api.ErrLong, 65536: api.ErrLong, 65537: api.ErrLong, 1 << 20: api.ErrLong} {
			l[place] = with(n)
			refused(t, fmt.Sprint(n, " octets at ", place), l, want)
		}
	}
	// Seven steps of 9 + 1024 octets leave 961, which are 9 + 952.
	l := slices.Repeat([]api.Step{with(1024)}, 7)
	refused(t, "8191", append(slices.Clip(l), with(951)), api.OK)
	refused(t, "8192", append(slices.Clip(l), with(952)), api.OK)
	refused(t, "8193", append(slices.Clip(l), with(953)), api.ErrLong)
	refused(t, "8192, with a step of 9", append(slices.Clip(l), with(943), api.Step{}), api.OK)
	refused(t, "8193, with a step of 9", append(slices.Clip(l), with(944), api.Step{}), api.ErrLong)
	refused(t, "the long one first", slices.Concat([]api.Step{with(953)}, l), api.ErrLong)
	refused(t, "eight", append(slices.Clip(l), with(1024)), api.ErrLong)
	refused(t, "512 times 1024", slices.Repeat(l[:1], 512), api.ErrLong)
	// 512 steps of 9 octets leave 3584, which are 7 each.
	refused(t, "512 with 8192", slices.Repeat([]api.Step{with(7)}, 512), api.OK)
	l = slices.Repeat([]api.Step{with(7)}, 512)
	l[511] = with(8)
	refused(t, "512 with 8193", l, api.ErrLong)
	if b, _ := Put(slices.Repeat([]api.Step{with(7)}, 512)); len(b) != 8192 {
		t.Errorf("%d octets", len(b))
	}
}

// P25.1, P4, Put: too many, ahead of what has no room, ahead of what is too long, whichever step it is.
func TestPutOrder(t *testing.T) {
	room, long := api.Step{C: 32768}, with(1025)
	refused(t, "room behind long", []api.Step{long, {}, room}, api.ErrRange)
	refused(t, "room ahead of long", []api.Step{room, {}, long}, api.ErrRange)
	refused(t, "both in one", []api.Step{{Kind: 256, Data: long.Data}}, api.ErrRange)
	refused(t, "all too long, then room", append(slices.Repeat([]api.Step{with(1024)}, 8), room), api.ErrRange)
	refused(t, "too many, room", append(many(512), room), api.ErrCount)
	refused(t, "too many, room ahead", append([]api.Step{room}, many(512)...), api.ErrCount)
	refused(t, "too many, long", append([]api.Step{long}, many(512)...), api.ErrCount)
	refused(t, "too many, all long", slices.Repeat([]api.Step{with(1024)}, 513), api.ErrCount)
	refused(t, "too many, all of it", append([]api.Step{room, long}, many(512)...), api.ErrCount)
}

// P25.1, Read: ErrSyntax of all that is torn, or has another length than it tells.
func TestReadTorn(t *testing.T) {
	l := []api.Step{{Kind: 1, A: 2, B: -3, C: 4, Data: []byte("data")}, {Kind: 8}, {Kind: 7, Data: []byte{1}}, {Kind: 13}}
	b := octetsOf(t, l)
	ends := map[int]int{0: 0, 13: 1, 22: 2, 32: 3, 41: 4}
	for end := range b {
		if n, ok := ends[end]; ok {
			back, err := Read(b[:end])
			if err != api.OK || told(back) != told(l[:n]) {
				t.Errorf("%d octets: %v, %d", end, back, err)
			}
			continue
		}
		unread(t, fmt.Sprint(end, " octets"), b[:end], api.ErrSyntax)
	}
	unread(t, "one octet more", append(slices.Clip(b), 0), api.ErrSyntax)
	unread(t, "eight octets more", append(slices.Clip(b), make([]byte, 8)...), api.ErrSyntax)
	unread(t, "nine octets more", append(slices.Clip(b), make([]byte, 9)...), api.OK)
	for n := range 3 {
		x := octetsOf(t, []api.Step{with(n)})
		x[8]++
		unread(t, fmt.Sprint("one too few for ", n+1), x, api.ErrSyntax)
		x[7], x[8] = 1, byte(n)
		unread(t, fmt.Sprint("256 too few for ", n), x, api.ErrSyntax)
		x[7], x[8] = 255, 255
		unread(t, fmt.Sprint("most for ", n), x, api.ErrSyntax)
	}
}

// P25.1, Read: Data of more than 1024 octets is no script's, though it is there.
func TestReadLongData(t *testing.T) {
	for n, want := range map[int]api.Errno{1023: api.OK, 1024: api.OK, 1025: api.ErrSyntax, 1026: api.ErrSyntax, 4096: api.ErrSyntax, 8183: api.ErrSyntax, 8184: api.ErrLong} {
		b := append([]byte{7, 128, 0, 128, 0, 128, 0, byte(n / 256), byte(n % 256)}, make([]byte, n)...)
		unread(t, fmt.Sprint(n), b, want)
		if len(b) < 8000 {
			unread(t, fmt.Sprint(n, " behind another"), append(octetsOf(t, many(2)), b...), want)
			unread(t, fmt.Sprint(n, " ahead of another"), append(b, octetsOf(t, many(2))...), want)
		}
	}
}

// P25.1, P4, Read: ErrLong goes ahead of ErrSyntax, that ahead of ErrCount.
func TestReadMuch(t *testing.T) {
	whole := func(n int) []byte { return make([]byte, 9*n) }
	unread(t, "512 steps", whole(512), api.OK)
	unread(t, "513 steps", whole(513), api.ErrCount)
	unread(t, "910 steps", whole(910), api.ErrCount)
	unread(t, "911 steps", whole(911), api.ErrLong)
	unread(t, "513 steps, torn", append(whole(513), 0), api.ErrSyntax)
	unread(t, "512 steps, torn", append(whole(512), 0), api.ErrSyntax)
	unread(t, "8192, torn", make([]byte, 8192), api.ErrSyntax)
	unread(t, "8193, torn", make([]byte, 8193), api.ErrLong)
	unread(t, "a million", make([]byte, 1<<20), api.ErrLong)
	b := octetsOf(t, slices.Repeat([]api.Step{with(7)}, 512))
	unread(t, "512 steps of 8192", b, api.OK)
	unread(t, "one more than 8192", append(b, 0), api.ErrLong)
}

// same fails, unless two worlds are alike in all that they know.
func same(t *testing.T, name string, got, want *world.World) {
	t.Helper()
	if got == nil || want == nil {
		t.Fatalf("%s: no world", name)
	}
	if view(got) != view(want) {
		t.Errorf("%s:\n%.3000s\nnot\n%.3000s", name, view(got), view(want))
	}
	if !reflect.DeepEqual(got, want) {
		t.Errorf("%s: something within is another", name)
	}
}

// view is all that is to be seen of a world.
func view(w *world.World) string {
	s := fmt.Sprintf("now %d mail %v forged %t clash %t setup %v\n", w.Now(), w.Mail(), w.Forged(), w.Clash(), w.Setup())
	for side := range 2 {
		c := w.Side(side)
		s += fmt.Sprintf("side %v %#v %#v\n", c.State(), c.Pool(), c.Events(0))
	}
	for n := range 4 {
		s += fmt.Sprintf("%d late %t", n, w.Late(n))
		if c := w.Client(n); c != nil {
			s += fmt.Sprintf(" down %t %#v %q", c.Down(), c.Deals(), c.Signed())
		}
		if r := w.Router(n); r != nil {
			s += fmt.Sprintf(" down %t %#v %#v", r.Down(), r.Bids(), r.Mirrors())
		}
		s += "\n"
	}
	return s
}

// byHand is the world behind all steps, one by one.
func byHand(t *testing.T, s world.Setup, l []api.Step) *world.World {
	t.Helper()
	w, err := world.New(s)
	if err != api.OK {
		t.Fatal(err)
	}
	for _, x := range l {
		w.Step(x)
	}
	return w
}

// ran is the world that Run leads to.
func ran(t *testing.T, s world.Setup, l []api.Step) *world.World {
	t.Helper()
	w, err := Run(s, l)
	if err != api.OK {
		t.Fatal(err)
	}
	return w
}

// trade is a script in which user 0 asks for 100, and gets it.
func trade() []api.Step {
	return append([]api.Step{{Kind: 9, A: 0, B: 100}}, slices.Repeat([]api.Step{{Kind: 13}}, 6)...)
}

// usual is a setup with time and room.
var usual = world.Setup{Delay: 1, Skew: 5, Room: 9999}

// P25.1, Run: the world behind all steps; a trade gets there.
func TestRunTrade(t *testing.T) {
	w := ran(t, usual, trade())
	if w.Now() != 6 || w.Setup() != usual {
		t.Errorf("now %d, of %v", w.Now(), w.Setup())
	}
	key := deal.Key(w.Client(0).Deals()[0].Inv)
	for side := range 2 {
		if got := escrow.Status(w.Side(side).State(), key); got != 2 {
			t.Errorf("side %d: %d", side, got)
		}
	}
	same(t, "a trade", w, byHand(t, usual, trade()))
}

// P25.1, Run: of no steps it is a new world.
func TestRunNothing(t *testing.T) {
	for _, s := range []world.Setup{usual, {Delay: 4, Skew: -100, Corrupt: 31}, {Delay: 1, Skew: 100, Room: 1 << 16}} {
		w, err := world.New(s)
		if err != api.OK {
			t.Fatal(err)
		}
		same(t, "nil", ran(t, s, nil), w)
		same(t, "empty", ran(t, s, []api.Step{}), w)
	}
}

// P25.1, Run: every step is done, once, in order, the first and the last, too.
func TestRunOrder(t *testing.T) {
	l := []api.Step{{Kind: 1}, {Kind: 7, A: 1, Data: []byte("a")}, {Kind: 7, A: 2, Data: []byte("b")}, {Kind: 5, A: 0}, {Kind: 4, A: 1}, {Kind: 9, A: 1, B: 5, C: 1}, {Kind: 10, A: 0, B: 3}, {Kind: 1}}
	w := ran(t, usual, l)
	if got := fmt.Sprintf("%d %v", w.Now(), w.Mail()[:2]); got != "2 [{1 [97]} {1 [97]}]" {
		t.Error(got)
	}
	if !w.Client(0).Down() || len(w.Mail()) != 4 {
		t.Error("not all steps are done")
	}
	for n := range l {
		same(t, fmt.Sprint("the first ", n), ran(t, usual, l[:n]), byHand(t, usual, l[:n]))
	}
	for n := range 513 {
		if n%64 < 2 || n == 511 {
			if w := ran(t, usual, slices.Repeat([]api.Step{{Kind: 1}}, n)); w.Now() != n {
				t.Errorf("%d ticks: %d", n, w.Now())
			}
		}
	}
}

// P25.1, P4, Run: ErrCount, then New's error, then none; beside an error there is no world.
func TestRunErrors(t *testing.T) {
	ticks := slices.Repeat([]api.Step{{Kind: 1}}, 600)
	for name, x := range map[string]struct {
		setup world.Setup
		steps int
		want  api.Errno
	}{
		"most":               {usual, 512, api.OK},
		"too many":           {usual, 513, api.ErrCount},
		"far too many":       {usual, 600, api.ErrCount},
		"no setup":           {world.Setup{}, 0, api.ErrRange},
		"no setup, most":     {world.Setup{}, 512, api.ErrRange},
		"no setup, too many": {world.Setup{}, 513, api.ErrCount},
		"delay":              {world.Setup{Delay: 5}, 1, api.ErrRange},
		"skew":               {world.Setup{Delay: 1, Skew: 101}, 1, api.ErrRange},
		"corrupt":            {world.Setup{Delay: 1, Corrupt: 32}, 1, api.ErrRange},
		"room":               {world.Setup{Delay: 1, Room: 1<<16 + 1}, 1, api.ErrRange},
		"odd":                {world.Setup{Delay: math.MinInt, Skew: math.MaxInt, Corrupt: -1, Room: -1}, 1, api.ErrRange},
	} {
		w, err := Run(x.setup, ticks[:x.steps])
		if err != x.want || (err == api.OK) != (w != nil) {
			t.Errorf("%s: %v, %d; want %d", name, w != nil, err, x.want)
		}
	}
}

// P25.1, Run: it names no other errors: what Put would refuse is done as it is.
func TestRunWide(t *testing.T) {
	long := bytes.Repeat([]byte{7}, 1025)
	l := []api.Step{{Kind: 300}, {Kind: -1}, {Kind: 7, A: 1, Data: long}, {Kind: 9, A: 0, B: 40000, C: math.MaxInt}, {Kind: 5, A: math.MinInt}}
	w := ran(t, usual, l)
	if got := w.Mail(); len(got) != 4 || len(got[0].Data) != 1025 {
		t.Errorf("%d letters", len(got))
	}
	same(t, "no script's", w, byHand(t, usual, l))
	l = slices.Repeat([]api.Step{with(1024)}, 20)
	if got := ran(t, usual, l).Mail(); len(got) != 20 {
		t.Errorf("%d letters", len(got))
	}
}

// P25.3: Put's octets are new memory; its steps are neither changed nor kept.
func TestMemoryPut(t *testing.T) {
	l := []api.Step{{Kind: 7, Data: append(make([]byte, 0, 20), "first"...)}, {Kind: 8, A: 1, Data: []byte("second")}}
	mine := copied(l)
	b, other := octetsOf(t, l), octetsOf(t, l)
	want := bytes.Clone(b)
	spoil(b)
	if told(l) != told(mine) || !bytes.Equal(l[0].Data[:20], append([]byte("first"), make([]byte, 15)...)) {
		t.Error("the steps changed")
	}
	if !bytes.Equal(other, want) {
		t.Error("two answers share memory")
	}
	spoil(l[0].Data)
	spoil(l[1].Data)
	if !bytes.Equal(other, want) {
		t.Error("the answer shares memory with the steps")
	}
	l = []api.Step{{Data: []byte("only")}}
	spoil(octetsOf(t, l))
	if string(l[0].Data) != "only" {
		t.Error("one step's Data is lent out")
	}
}

// spoil writes over all that b has room for.
func spoil(b []byte) {
	b = b[:cap(b)]
	for i := range b {
		b[i] ^= 0xa5
	}
}

// P25.3: Read's steps are new memory, each Data its own; its octets are neither changed nor kept.
func TestMemoryRead(t *testing.T) {
	l := []api.Step{{Kind: 7, Data: []byte("first")}, {Kind: 7, A: 1, Data: []byte("second")}, {Kind: 1}, {Kind: 7, Data: []byte("third")}}
	b := append(make([]byte, 0, 200), octetsOf(t, l)...)
	whole := bytes.Clone(b[:200])
	one, err := Read(b)
	two, _ := Read(b)
	if err != api.OK || !bytes.Equal(b[:200], whole) {
		t.Fatalf("%d, or the octets changed", err)
	}
	for i := range one {
		mine := copied(one)
		spoil(one[i].Data)
		for k := range one {
			if k != i && !bytes.Equal(one[k].Data, mine[k].Data) {
				t.Errorf("Data of steps %d and %d share memory", i, k)
			}
		}
	}
	for i := range one[:cap(one)] {
		one[:cap(one)][i] = api.Step{Kind: 99}
	}
	if !bytes.Equal(b[:200], whole) || told(two) != told(l) {
		t.Error("an answer shares memory with the octets, or another answer")
	}
	spoil(b)
	if told(two) != told(l) {
		t.Error("an answer shares memory with the octets")
	}
}

// P25.3: Run's steps are neither changed nor kept, and worlds share nothing.
func TestMemoryRun(t *testing.T) {
	l := append(trade(), api.Step{Kind: 7, A: 1, Data: append(make([]byte, 0, 9), "data"...)}, api.Step{Kind: 5}, api.Step{Kind: 9, A: 1, B: 7})
	mine := copied(l)
	w, other := ran(t, usual, l), ran(t, usual, l)
	if told(l) != told(mine) || string(l[7].Data[:9]) != "data\x00\x00\x00\x00\x00" {
		t.Error("the steps changed")
	}
	want := view(w)
	spoil(l[7].Data)
	clear(l)
	if view(w) != want {
		t.Error("the world shares memory with the steps")
	}
	for range 3 {
		w.Step(api.Step{Kind: 13})
	}
	if view(other) != want {
		t.Error("two worlds share something")
	}
}

// P3: the same arguments lead to the same, also side by side.
func TestSideBySide(t *testing.T) {
	l := append(trade(), api.Step{Kind: 7, A: 1, Data: []byte("data")}, api.Step{Kind: 9, A: 1, B: 7, C: 1}, api.Step{Kind: 13})
	answers := make(chan string)
	for range 6 {
		go func() {
			b, err := Put(l)
			back, fault := Read(b)
			w, wrong := Run(usual, back)
			answers <- fmt.Sprint(b, err, told(back), fault, wrong, view(w))
		}()
	}
	want := <-answers
	for range 5 {
		if <-answers != want {
			t.Error("answers differ when calls run side by side")
		}
	}
}
