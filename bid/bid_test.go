package bid

import (
	"bytes"
	"encoding/binary"
	"encoding/hex"
	"math"
	"math/big"
	"math/rand"
	"slices"
	"strconv"
	"strings"
	"testing"

	"narrows/api"
	"narrows/field"
	"narrows/mss"
)

// sample is an ask whose numbers are as unlike as they can be, and whose octets of Amount are all unlike.
func sample() api.Ask {
	return api.Ask{User: 1, Send: 0, Recv: 1, To: 5, Amount: api.Wide{0x0102030405060708, 0x1112131415161718, 0x2122232425262728, 0x3132333435363738}, Id: "trade"}
}

// sampleBid is a bid for it, of less than was asked for by the highest word alone: all others are greater.
func sampleBid() api.Bid {
	return api.Bid{Router: 3, Ask: sample(), Amount: api.Wide{0x4142434445464748, 0x5152535455565758, 0x6162636465666768, 0x2122232425262728}, Until: 1028}
}

// row is n octets, none like the one next to it.
func row(n int) string {
	b := make([]byte, n)
	for i := range b {
		b[i] = byte(i + i/256 + 1)
	}
	return string(b)
}

// top is the greatest number that a word can be.
const top = uint64(math.MaxUint64)

// amounts are wide numbers above 0, from the lowest to the highest, with edges of each word.
func amounts() []api.Wide {
	return []api.Wide{{1}, {2}, {255}, {256}, {1 << 63}, {top - 1}, {top}, {0, 1}, {1, 1}, {top, 1}, {0, 2}, {top, top}, {0, 0, 1}, {1, 0, 1}, {0, 1, 1}, {top, top, top}, {0, 0, 0, 1}, {1, 0, 0, 1}, {0, 0, 1, 1}, {0, 0, 0, 1 << 63}, {top, top, top, top - 1}, {0, 0, 0, top}, {top - 1, top, top, top}, {top, top, top, top}}
}

// asks are all that may be, but for a few Amounts, and Ids of each length.
func asks() []api.Ask {
	var l []api.Ask
	for n := range 2 * 2 * 2 * 8 {
		a := api.Ask{User: n & 1, Send: n >> 1 & 1, Recv: n >> 2 & 1, To: n >> 3}
		for size := 1; size <= 16; size++ {
			a.Amount = amounts()[(n+5*size)%len(amounts())]
			for _, id := range []string{row(size), strings.Repeat("\x00", size), strings.Repeat("\xff", size)} {
				a.Id = id
				l = append(l, a)
			}
		}
	}
	return l
}

// untils are from 0 to MaxNum.
func untils() []int {
	return []int{0, 1, 2, 255, 256, 1028, 1 << 20, 1<<32 - 1, 1 << 32, 1<<40 - 1, 1 << 40}
}

// bids are of either router, for some asks, with each Until.
func bids() []api.Bid {
	l := []api.Bid{sampleBid()}
	for n, a := range asks() {
		if n%11 != 0 {
			continue
		}
		for m, until := range untils() {
			b := api.Bid{Router: 2 + (n+m)%2, Ask: a, Until: until}
			for place, amount := range amounts() {
				if amount == a.Amount {
					b.Amount = amounts()[(n+m)%(place+1)]
				}
			}
			l = append(l, b)
		}
	}
	return l
}

// noNumbers are numbers that none but Until may be, though the lowest bits of some could; those that a field can't take are among them.
func noNumbers() []int {
	return []int{-1, -2, -8, -256, -(1 << 40), -(1 << 48), math.MinInt, math.MinInt + 1, math.MinInt + 2, 8, 9, 15, 16, 255, 256, 257, 258, 1 << 16, 1 << 32, 1<<32 + 2, 1<<40 - 1, 1 << 40, 1<<40 + 1, 1<<40 + 2, 1 << 48, 1<<48 + 2, 1 << 62, math.MaxInt}
}

// wrongAsks are asks that may not be, each for one reason alone, with a name.
func wrongAsks(a api.Ask) map[string]api.Ask {
	l := map[string]api.Ask{}
	bad := func(name string, n int, set func(*api.Ask)) {
		wrong := a
		set(&wrong)
		l[name+" "+strconv.Itoa(n)] = wrong
	}
	numbers := func(name string, near []int, set func(*api.Ask, int)) {
		for _, n := range slices.Concat(near, noNumbers()) {
			bad(name, n, func(a *api.Ask) { set(a, n) })
		}
	}
	numbers("User", []int{2, 3, 4, 7}, func(a *api.Ask, n int) { a.User = n })
	numbers("Send", []int{2, 3, 4, 7}, func(a *api.Ask, n int) { a.Send = n })
	numbers("Recv", []int{2, 3, 4, 7}, func(a *api.Ask, n int) { a.Recv = n })
	numbers("To", nil, func(a *api.Ask, n int) { a.To = n })
	bad("Amount", 0, func(a *api.Ask) { a.Amount = api.Wide{} })
	for _, n := range []int{0, 17, 18, 32, 255, 256, 257, 272, 1024, 1025, 65537} {
		bad("Id of", n, func(a *api.Ask) { a.Id = row(n) })
	}
	return l
}

// wrongBids are bids that may not be, each for one reason alone, with a name; Sig is as it was.
func wrongBids(b api.Bid) map[string]api.Bid {
	l := map[string]api.Bid{}
	bad := func(name string, set func(*api.Bid)) {
		wrong := b
		set(&wrong)
		l[name] = wrong
	}
	for _, n := range slices.Concat([]int{0, 1, 4, 5, 6, 7}, noNumbers()) {
		bad("Router "+strconv.Itoa(n), func(b *api.Bid) { b.Router = n })
	}
	for what, a := range wrongAsks(b.Ask) {
		bad("Ask's "+what, func(b *api.Bid) { b.Ask = a })
	}
	for _, n := range []int{-1, -2, -(1 << 40), -(1 << 48), math.MinInt, math.MinInt + 1, 1<<40 + 1, 1 << 41, 1 << 48, 1<<48 + 1, 1 << 62, math.MaxInt} {
		bad("Until "+strconv.Itoa(n), func(b *api.Bid) { b.Until = n })
	}
	bad("Amount 0", func(b *api.Bid) { b.Amount = api.Wide{} })
	for place, amount := range amounts()[1:] {
		bad("more than was asked for "+strconv.Itoa(place), func(b *api.Bid) { b.Amount, b.Ask.Amount = amount, amounts()[place] })
	}
	return l
}

// longSigs are signatures that may not be, for their length alone.
func longSigs() []string {
	return []string{row(1025), row(1026), row(2048), strings.Repeat("\x00", 1025), row(65536), row(65681)}
}

// numOf, textOf, wideOf, askOf and bidOf are octets, written a second time on the standard library.
func numOf(n int) []byte {
	return binary.BigEndian.AppendUint64(nil, uint64(n))[2:]
}

func textOf(s string) []byte {
	return append(binary.BigEndian.AppendUint16(nil, uint16(len(s))), s...)
}

func wideOf(a api.Wide) []byte {
	var b []byte
	for word := 3; word >= 0; word-- {
		b = binary.BigEndian.AppendUint64(b, a[word])
	}
	return b
}

func askOf(a api.Ask) []byte {
	return slices.Concat(numOf(a.User), numOf(a.Send), numOf(a.Recv), numOf(a.To), wideOf(a.Amount), textOf(a.Id))
}

func bidOf(b api.Bid) []byte {
	return slices.Concat(textOf("bid"), numOf(b.Router), askOf(b.Ask), wideOf(b.Amount), numOf(b.Until))
}

// order holds two wide numbers against each other, written a second time.
func order(a api.Wide, b api.Wide) int {
	return new(big.Int).SetBytes(wideOf(a)).Cmp(new(big.Int).SetBytes(wideOf(b)))
}

// mayBe tells whether an ask may be, written a second time.
func mayBe(a api.Ask) bool {
	two := func(n int) bool { return n == 0 || n == 1 }
	return two(a.User) && two(a.Send) && two(a.Recv) && a.To >= 0 && a.To < 8 && order(a.Amount, api.Wide{}) == 1 && len(a.Id) > 0 && len(a.Id) < 17
}

// second reads octets, written a second time.
type second struct {
	b   []byte
	err api.Errno
}

func (s *second) piece(n int) []byte {
	if s.err == api.OK && n > len(s.b) {
		s.err = api.ErrSyntax
	}
	if s.err != api.OK {
		s.b = nil
		return make([]byte, n)
	}
	p := s.b[:n]
	s.b = s.b[n:]
	return p
}

func (s *second) number() int {
	n := int(binary.BigEndian.Uint64(append([]byte{0, 0}, s.piece(6)...)))
	if n > 1<<40 {
		s.err, s.b = api.ErrRange, nil
	}
	return n
}

func (s *second) wide() api.Wide {
	var a api.Wide
	p := s.piece(32)
	for word := range a {
		a[word] = binary.BigEndian.Uint64(p[24-8*word:])
	}
	return a
}

func (s *second) text(most int) string {
	n := int(binary.BigEndian.Uint16(s.piece(2)))
	if n > most {
		s.err, s.b = api.ErrRange, nil
	}
	return string(s.piece(n))
}

// askFrom is what octets tell: it, the error, and how many octets are left.
func askFrom(b []byte) (api.Ask, api.Errno, int) {
	s := &second{b: b}
	a := api.Ask{User: s.number(), Send: s.number(), Recv: s.number(), To: s.number(), Amount: s.wide(), Id: s.text(16)}
	if s.err == api.OK && !mayBe(a) {
		s.err = api.ErrSyntax
	}
	if s.err != api.OK {
		return api.Ask{}, s.err, 0
	}
	return a, api.OK, len(s.b)
}

// put is the octets that an Out was told.
func put(tell func(*field.Out)) ([]byte, api.Errno) {
	w := field.New()
	tell(w)
	return w.Done()
}

// puts fails unless PutAsk puts want, or makes an Out fail with err.
func puts(t *testing.T, what string, a api.Ask, want []byte, err api.Errno) {
	t.Helper()
	if b, got := put(func(w *field.Out) { PutAsk(w, a) }); got != err || !bytes.Equal(b, want) {
		t.Fatalf("PutAsk %s: %.100x, %d; want %.100x, %d", what, b, got, want, err)
	}
}

// read fails unless r has that error, and so many octets left; behind an error nothing is read.
func read(t *testing.T, what string, r *field.In, err api.Errno, left int) {
	t.Helper()
	if r.Err() != err || r.Left() != left {
		t.Fatalf("%s: %d, %d left; want %d, %d left", what, r.Err(), r.Left(), err, left)
	}
	if err == api.OK {
		return
	}
	if n, s, a := r.Num(api.MaxNum), r.Text(api.MaxText), r.Wide(); n != 0 || s != "" || a != (api.Wide{}) {
		t.Fatalf("%s: behind the error %d, %q, %x are read", what, n, s, a)
	}
	if a := GetAsk(r); a != (api.Ask{}) || r.Err() != err {
		t.Fatalf("%s: behind the error %v, %d", what, a, r.Err())
	}
}

// gets fails unless GetAsk of octets answers want, with that error, and so many octets left.
func gets(t *testing.T, what string, b []byte, want api.Ask, err api.Errno, left int) {
	t.Helper()
	r := field.Open(b)
	if a := GetAsk(r); a != want {
		t.Fatalf("GetAsk %s of %x: %v, want %v", what, b, a, want)
	}
	read(t, "GetAsk "+what, r, err, left)
}

// signed is the bid with its signature by that key; it fails, if it can't be signed.
func signed(t *testing.T, k api.Key, b api.Bid) api.Bid {
	t.Helper()
	got, _, err := Sign(k, b)
	if err != api.OK {
		t.Fatalf("Sign(%v, %v): %d", k, b, err)
	}
	return got
}

func unhex(t *testing.T, s string) string {
	t.Helper()
	b, err := hex.DecodeString(s)
	if err != nil {
		t.Fatal(err)
	}
	return string(b)
}

// made is a bid with all that is made of it, in hexadecimal digits: its ask's octets, its text, its router's root, and its signature by that leaf.
type made struct {
	b                    api.Bid
	ask, text, root, sig string
	leaf                 int
}

// written are bids of which all was worked out outside Go.
func written() []made {
	most := api.Wide{top, top, top, top}
	return []made{
		{
			api.Bid{Router: 2, Ask: api.Ask{Amount: api.Wide{1}, Id: "a"}, Amount: api.Wide{1}},
			"0000000000000000000000000000000000000000000000000000000000000000000000000000000000000000000000000000000000000001000161",
			"000362696400000000000200000000000000000000000000000000000000000000000000000000000000000000000000000000000000000000000000000000000000010001610000000000000000000000000000000000000000000000000000000000000001000000000000",
			"f8389e0e196a32ce",
			"000308c5889df936aa16c33f71a5a31d471fa63fa68221fc3f660fc586d3e13eb47a7f7376d08d84a2d702af1b3fba11cc44afb83e4ff68c5f67673ea16a73b823a3b9a556381337925d9f15248471067a17bb1325a9bc6fd3b6c78f4309a765c9879fc588c68787b1e346a80ae5b5a82c33ac34858c3254f9386992811bb09e745d0c97eb8a27fefbad770904ef16fa94",
			0,
		},
		{
			sampleBid(),
			"000000000001000000000000000000000001000000000005313233343536373821222324252627281112131415161718010203040506070800057472616465",
			"00036269640000000000030000000000010000000000000000000000010000000000053132333435363738212223242526272811121314151617180102030405060708000574726164652122232425262728616263646566676851525354555657584142434445464748000000000404",
			"2adf2df883286f57",
			"05f5a92dc106c8c8fb3920952ab6686a75931ed0fce60ac1211827b62e439b9640c53fa8cc729879020ffa1f95732d6c3bf104ca8d969da450adbce354a2817cbf269b85e781dcc2660d9f2b2b0b6719d143f29cfe98b1b9b5c1b56b485f4717b40b356d9022270b3768c99cea940771e3aafde133b026db38165192aa0d2d7a83cfed135198bac3565327f2e93d3bb8f0",
			5,
		},
		{
			api.Bid{Router: 3, Ask: api.Ask{User: 1, Send: 1, Recv: 1, To: 7, Amount: most, Id: "\x00\x01\x02\x03\x04\x05\x06\x07\x08\x09\x0a\x0b\x0c\x0d\x0e\x0f"}, Amount: most, Until: 1 << 40},
			"000000000001000000000001000000000001000000000007ffffffffffffffffffffffffffffffffffffffffffffffffffffffffffffffff0010000102030405060708090a0b0c0d0e0f",
			"0003626964000000000003000000000001000000000001000000000001000000000007ffffffffffffffffffffffffffffffffffffffffffffffffffffffffffffffff0010000102030405060708090a0b0c0d0e0fffffffffffffffffffffffffffffffffffffffffffffffffffffffffffffffff010000000000",
			"2adf2df883286f57",
			"072482012063a491b08c28d89694afb285798ed3aad997650b0e12907213e1c192674f613f1c73f9a914dfdc3232836df979149769f8893d0ed1b1b75276d4859afd2e621910ce73933181db46b70db0ab2b8412438f3dbf2241cc263ec3d1c7ed6ab36b9f8465b2cb1097eab20fa71c4f4debfcfbb20a65ff77dd60a14620a490e93768446e0d17455327f2e93d3bb8f0",
			7,
		},
	}
}

// P8.1: octets, texts, routers' roots and signatures that are written out.
func TestWritten(t *testing.T) {
	for _, c := range written() {
		puts(t, "as written", c.b.Ask, []byte(unhex(t, c.ask)), api.OK)
		gets(t, "as written", []byte(unhex(t, c.ask)), c.b.Ask, api.OK, 0)
		if text := Text(c.b); string(text) != unhex(t, c.text) {
			t.Errorf("Text(%v) = %x, want %s", c.b, text, c.text)
		}
		seed := Seed(c.b.Router)
		if root := mss.Root(seed); root != unhex(t, c.root) {
			t.Errorf("the root of router %d is %x, want %s", c.b.Router, root, c.root)
		}
		want := c.b
		want.Sig = unhex(t, c.sig)
		got, k, err := Sign(api.Key{Seed: seed, Next: c.leaf}, c.b)
		if got != want || k != (api.Key{Seed: seed, Next: c.leaf + 1}) || err != api.OK {
			t.Errorf("Sign(%v) with leaf %d: %x, %v, %d; want %s", c.b, c.leaf, got.Sig, k, err, c.sig)
		}
		if !Valid(want, unhex(t, c.root)) {
			t.Errorf("%v is not valid by %s", want, c.root)
		}
	}
}

// P8.1, CheckAsk: OK of all asks that may be.
func TestCheckAsk(t *testing.T) {
	for _, a := range asks() {
		if err := CheckAsk(a); err != api.OK {
			t.Fatalf("CheckAsk(%v) = %d", a, err)
		}
	}
	for _, amount := range amounts() {
		a := sample()
		a.Amount = amount
		if err := CheckAsk(a); err != api.OK {
			t.Errorf("CheckAsk of %x = %d", amount, err)
		}
	}
}

// P8.1, CheckAsk: ErrRoute of those that may not be, for one reason or for several.
func TestCheckAskOfWrong(t *testing.T) {
	for _, a := range []api.Ask{sample(), asks()[0]} {
		for what, wrong := range wrongAsks(a) {
			if err := CheckAsk(wrong); err != api.ErrRoute {
				t.Errorf("CheckAsk with %s = %d", what, err)
			}
			wrong.Id, wrong.User = "", 7
			if err := CheckAsk(wrong); err != api.ErrRoute {
				t.Errorf("CheckAsk with %s and more = %d", what, err)
			}
		}
	}
	for _, a := range []api.Ask{{}, {User: -1, Send: -1, Recv: -1, To: -1, Id: row(17)}} {
		if err := CheckAsk(a); err != api.ErrRoute {
			t.Errorf("CheckAsk(%v) = %d", a, err)
		}
	}
}

// P8.1, CheckAsk: an Id is counted in octets, not in letters.
func TestCheckAskCountsOctets(t *testing.T) {
	a := sample()
	a.Id = strings.Repeat("ä", 8)
	if err := CheckAsk(a); err != api.OK {
		t.Errorf("an Id of 8 letters of 16 octets: %d", err)
	}
	a.Id = strings.Repeat("ä", 9)
	if err := CheckAsk(a); err != api.ErrRoute {
		t.Errorf("an Id of 9 letters of 18 octets: %d", err)
	}
}

// P8.1, Check: OK of bids that may be, whatever octets Sig has, up to MaxText of them.
func TestCheck(t *testing.T) {
	for _, b := range bids() {
		for _, sig := range []string{"", row(145)} {
			b.Sig = sig
			if err := Check(b); err != api.OK {
				t.Fatalf("Check(%v) = %d", b, err)
			}
		}
	}
	for _, n := range []int{1, 2, 144, 146, 255, 256, 1023, 1024} {
		b := sampleBid()
		b.Sig = row(n)
		if err := Check(b); err != api.OK {
			t.Errorf("Check with a Sig of %d octets = %d", n, err)
		}
	}
}

// P8.1, Check: ErrRoute of bids that may not be, for one reason or for several; the chapter's example among them.
func TestCheckOfWrong(t *testing.T) {
	for _, b := range []api.Bid{sampleBid(), bids()[1]} {
		for what, wrong := range wrongBids(b) {
			if err := Check(wrong); err != api.ErrRoute {
				t.Errorf("Check with %s = %d", what, err)
			}
			wrong.Ask.Id, wrong.Router = "", 1
			if err := Check(wrong); err != api.ErrRoute {
				t.Errorf("Check with %s and more = %d", what, err)
			}
		}
		for _, sig := range longSigs() {
			b.Sig = sig
			if err := Check(b); err != api.ErrRoute {
				t.Errorf("Check with a Sig of %d octets = %d", len(sig), err)
			}
		}
	}
	for _, b := range []api.Bid{{}, {Router: 2}, {Ask: sample()}, {Router: -1, Ask: api.Ask{User: -1, To: -1, Id: row(17)}, Until: -1, Sig: row(1025)}} {
		if err := Check(b); err != api.ErrRoute {
			t.Errorf("Check(%v) = %d", b, err)
		}
	}
}

// P8.1, Check: what is offered is above 0 and at most what was asked for, all words of both held against each other.
func TestCheckOfAmounts(t *testing.T) {
	for _, asked := range append(amounts(), api.Wide{}) {
		for _, offered := range append(amounts(), api.Wide{}) {
			b := sampleBid()
			b.Ask.Amount, b.Amount = asked, offered
			want := api.ErrRoute
			if order(offered, api.Wide{}) > 0 && order(offered, asked) <= 0 {
				want = api.OK
			}
			if err := Check(b); err != want {
				t.Errorf("Check of %x for %x = %d, want %d", offered, asked, err, want)
			}
		}
	}
}

// P8.1, PutAsk: the fields of all that may be.
func TestPutAsk(t *testing.T) {
	for _, a := range asks() {
		puts(t, "", a, askOf(a), api.OK)
	}
}

// P8.1, PutAsk: also of what may not be its fields, as they are; or field's error, of the first that can't be one.
func TestPutAskOfWrong(t *testing.T) {
	fits := func(n int) bool { return n >= 0 && n <= 1<<40 }
	for what, a := range wrongAsks(sample()) {
		switch {
		case len(a.Id) > 1024:
			puts(t, what, a, nil, api.ErrLong)
		case !fits(a.User) || !fits(a.Send) || !fits(a.Recv) || !fits(a.To):
			puts(t, what, a, nil, api.ErrRange)
		default:
			puts(t, what, a, askOf(a), api.OK)
		}
	}
	puts(t, "nothing", api.Ask{}, askOf(api.Ask{}), api.OK)
	puts(t, "To ahead of Id", api.Ask{To: -1, Id: row(1025)}, nil, api.ErrRange)
	puts(t, "an Id of 1024 octets", api.Ask{Id: row(1024)}, askOf(api.Ask{Id: row(1024)}), api.OK)
}

// P8.1, PutAsk: behind what an Out took; nothing, where it has an error.
func TestPutAskBehindOthers(t *testing.T) {
	a := sample()
	b, err := put(func(w *field.Out) {
		w.Num(9)
		PutAsk(w, a)
		PutAsk(w, a)
		w.Text("end")
	})
	want := slices.Concat(numOf(9), askOf(a), askOf(a), textOf("end"))
	if err != api.OK || !bytes.Equal(b, want) {
		t.Errorf("behind others: %x, %d; want %x", b, err, want)
	}
	b, err = put(func(w *field.Out) {
		w.Num(-1)
		PutAsk(w, a)
	})
	if err != api.ErrRange || len(b) != 0 {
		t.Errorf("behind an error: %x, %d", b, err)
	}
}

// P8.1, PutAsk: all of it goes in where there is just room for it, and nothing with one octet less.
func TestPutAskWhereThereIsLittleRoom(t *testing.T) {
	want := askOf(sample())
	full := func(room int) ([]byte, api.Errno) {
		return put(func(w *field.Out) {
			for range 7 {
				w.Text(row(1024))
			}
			w.Text(row(8192 - 7*1026 - 2 - room))
			PutAsk(w, sample())
		})
	}
	if b, err := full(len(want)); err != api.OK || len(b) != 8192 || !bytes.HasSuffix(b, want) {
		t.Errorf("with just room: %d octets, %d", len(b), err)
	}
	for room := range len(want) {
		if b, err := full(room); err != api.ErrLong || len(b) != 0 {
			t.Errorf("with room for %d: %d octets, %d", room, len(b), err)
		}
	}
}

// P8.1, GetAsk: all that may be is read, and what is behind stays.
func TestGetAsk(t *testing.T) {
	for _, a := range asks() {
		gets(t, "", askOf(a), a, api.OK, 0)
		gets(t, "with more behind", append(askOf(a), 1, 2, 3), a, api.OK, 3)
	}
}

// P8.1, GetAsk: an Id that is too long is ErrRange, whatever else is wrong.
func TestGetAskTooLong(t *testing.T) {
	for _, n := range []int{17, 18, 32, 256, 257, 272, 1024, 1025, 2048} {
		a := sample()
		a.Id = row(n)
		gets(t, "with a long Id", append(askOf(a), 1, 2, 3), api.Ask{}, api.ErrRange, 0)
		a.User, a.Send, a.Recv, a.To, a.Amount = 9, 9, 9, 9, api.Wide{}
		gets(t, "with a long Id and more", askOf(a), api.Ask{}, api.ErrRange, 0)
		gets(t, "with a long Id that is not all there", askOf(a)[:64], api.Ask{}, api.ErrRange, 0)
	}
}

// P8.1, GetAsk: what may not be else is ErrSyntax; a number that is none of field's is field's ErrRange.
func TestGetAskOfWrong(t *testing.T) {
	for what, a := range wrongAsks(sample()) {
		b, err := put(func(w *field.Out) { PutAsk(w, a) })
		if err != api.OK || len(a.Id) > 16 {
			continue
		}
		gets(t, "with "+what, append(b, 1, 2, 3), api.Ask{}, api.ErrSyntax, 0)
	}
	gets(t, "of nothing's fields", askOf(api.Ask{}), api.Ask{}, api.ErrSyntax, 0)
	for place := range 4 {
		for _, n := range []int{1<<40 + 1, 1<<40 + 2, 1 << 41, 1<<48 - 1} {
			a := sample()
			*[]*int{&a.User, &a.Send, &a.Recv, &a.To}[place] = n
			gets(t, "with a number above MaxNum", askOf(a), api.Ask{}, api.ErrRange, 0)
		}
	}
}

// P8.1, GetAsk: with fewer octets than it needs it is ErrSyntax, and nothing of it is told.
func TestGetAskOfTooFew(t *testing.T) {
	for _, a := range []api.Ask{sample(), asks()[0], asks()[len(asks())-1]} {
		b := askOf(a)
		for n := range b {
			gets(t, "of too few octets", b[:n], api.Ask{}, api.ErrSyntax, 0)
		}
	}
}

// P8.1, GetAsk: behind an error nothing is read, though octets for it are there, and the error stays.
func TestGetAskBehindAnError(t *testing.T) {
	all := append(numOf(2), askOf(sample())...)
	r := field.Open(all)
	r.Num(1)
	if a := GetAsk(r); a != (api.Ask{}) {
		t.Errorf("behind ErrRange: %v", a)
	}
	read(t, "behind ErrRange", r, api.ErrRange, 0)
	r = field.Open(all)
	r.Num(2)
	r.Spoil()
	if a := GetAsk(r); a != (api.Ask{}) {
		t.Errorf("behind a Spoil: %v", a)
	}
	read(t, "behind a Spoil", r, api.ErrSyntax, 0)
	r = field.Open(make([]byte, 8193))
	if a := GetAsk(r); a != (api.Ask{}) {
		t.Errorf("of too many octets: %v", a)
	}
	read(t, "of too many octets", r, api.ErrLong, 0)
}

// P8.1, and P1 of DOC.md: of any octets, and of octets that are nearly an ask's, GetAsk answers as the second writing does.
func TestGetAskOfAnyOctets(t *testing.T) {
	r := rand.New(rand.NewSource(8))
	check := func(b []byte) {
		t.Helper()
		a, err, left := askFrom(b)
		gets(t, "as the second writing", b, a, err, left)
	}
	for _, b := range [][]byte{askOf(sample()), askOf(asks()[0]), askOf(asks()[len(asks())-1])} {
		for place := range b {
			for x := range 256 {
				other := slices.Clone(b)
				other[place] = byte(x)
				check(other)
			}
			check(slices.Delete(slices.Clone(b), place, place+1))
			check(slices.Insert(slices.Clone(b), place, 0))
		}
	}
	for range 5000 {
		b := make([]byte, r.Intn(120))
		for i := range b {
			if r.Intn(3) == 0 {
				b[i] = byte(r.Intn(256) >> r.Intn(8))
			}
		}
		check(b)
		for i := range b {
			b[i] = byte(r.Intn(256))
		}
		check(b)
	}
}

// P8.1, Text: the octets of all bids that may be, without Sig; each has another one.
func TestText(t *testing.T) {
	seen := map[string]bool{}
	for _, b := range bids() {
		for _, sig := range []string{"", row(145), row(1024)} {
			b.Sig = sig
			if text := Text(b); !bytes.Equal(text, bidOf(b)) {
				t.Fatalf("Text(%v) = %x, want %x", b, text, bidOf(b))
			}
		}
		seen[string(Text(b))] = true
	}
	if len(seen) != len(bids()) {
		t.Errorf("%d texts of %d bids", len(seen), len(bids()))
	}
}

// P8.1, Text: nothing of a bid that may not be, for its Sig neither.
func TestTextOfWrong(t *testing.T) {
	for what, b := range wrongBids(sampleBid()) {
		if text := Text(b); len(text) != 0 {
			t.Errorf("Text with %s = %x", what, text)
		}
	}
	for _, sig := range longSigs() {
		b := sampleBid()
		b.Sig = sig
		if text := Text(b); len(text) != 0 {
			t.Errorf("Text with a Sig of %d octets = %x", len(sig), text)
		}
	}
	if text := Text(api.Bid{}); len(text) != 0 {
		t.Errorf("Text of nothing = %x", text)
	}
}

// P8.1, Sign: the bid with mss.Sign's signature of its text, and mss.Sign's key, whatever Sig was.
func TestSign(t *testing.T) {
	for leaf := range 8 {
		for _, sig := range append(longSigs(), "", row(145), row(1024)) {
			k := api.Key{Seed: Seed(3), Next: leaf}
			b := sampleBid()
			want := b
			wantSig, wantKey, _ := mss.Sign(k, bidOf(b))
			want.Sig = wantSig
			b.Sig = sig
			if got, next, err := Sign(k, b); got != want || next != wantKey || err != api.OK {
				t.Errorf("Sign with leaf %d, Sig of %d octets: %v, %v, %d", leaf, len(sig), got, next, err)
			}
		}
	}
}

// P8.1, Sign: any key signs any bid, also one of another router, or of no router.
func TestSignWithAnyKey(t *testing.T) {
	for _, seed := range []string{"", "seed", Seed(2), Seed(3), row(2000)} {
		b := sampleBid()
		sig, next, _ := mss.Sign(api.Key{Seed: seed, Next: 3}, bidOf(b))
		want := b
		want.Sig = sig
		if got, k, err := Sign(api.Key{Seed: seed, Next: 3}, b); got != want || k != next || err != api.OK {
			t.Errorf("Sign with seed %.20q: %v, %v, %d", seed, got, k, err)
		}
	}
}

// P8.1, Sign: ErrRoute of a bid that may not be, ahead of what mss.Sign tells; beside it nothing.
func TestSignOfWrong(t *testing.T) {
	for what, b := range wrongBids(sampleBid()) {
		for _, sig := range []string{"", row(1025)} {
			for _, next := range []int{0, 7, 8, 9, -1} {
				b.Sig = sig
				if got, k, err := Sign(api.Key{Seed: "seed", Next: next}, b); got != (api.Bid{}) || k != (api.Key{}) || err != api.ErrRoute {
					t.Errorf("Sign with %s: %v, %v, %d", what, got, k, err)
				}
			}
		}
	}
}

// P8.1, Sign: mss.Sign's errors, and beside them nothing.
func TestSignWithWrongKey(t *testing.T) {
	wants := map[int]api.Errno{8: api.ErrFull}
	for _, next := range []int{-1, -2, -8, math.MinInt, 9, 10, 256, 264, 1 << 32, math.MaxInt} {
		wants[next] = api.ErrState
	}
	for next, want := range wants {
		for _, sig := range []string{"", row(145), row(1025)} {
			b := sampleBid()
			b.Sig = sig
			if got, k, err := Sign(api.Key{Seed: Seed(3), Next: next}, b); got != (api.Bid{}) || k != (api.Key{}) || err != want {
				t.Errorf("Sign with Next %d: %v, %v, %d; want %d", next, got, k, err, want)
			}
		}
	}
}

// P8.1, Valid, and P8.2: what is signed is valid, by each leaf in turn, till there is none.
func TestSignedIsValid(t *testing.T) {
	l := bids()
	for _, seed := range []string{Seed(2), Seed(3), "seed", ""} {
		root := mss.Root(seed)
		k := api.Key{Seed: seed}
		for n := range 8 {
			b, next, err := Sign(k, l[(len(seed)+37*n)%len(l)])
			if err != api.OK || next != (api.Key{Seed: seed, Next: n + 1}) {
				t.Fatalf("Sign with leaf %d: %v, %d", n, next, err)
			}
			if !Valid(b, root) {
				t.Errorf("%v is not valid", b)
			}
			k = next
		}
		if _, _, err := Sign(k, l[0]); err != api.ErrFull {
			t.Errorf("a ninth signature: %d", err)
		}
	}
	for n, b := range l {
		if n%20 == 0 && !Valid(signed(t, api.Key{Seed: "seed", Next: n % 8}, b), mss.Root("seed")) {
			t.Errorf("%v is not valid", b)
		}
	}
}

// P8.2: what is signed again is valid, with the signature that it got last.
func TestSignedAgainIsValid(t *testing.T) {
	b := signed(t, api.Key{Seed: Seed(2), Next: 1}, sampleBid())
	again := signed(t, api.Key{Seed: Seed(3), Next: 2}, b)
	if !Valid(again, mss.Root(Seed(3))) || Valid(again, mss.Root(Seed(2))) || !Valid(b, mss.Root(Seed(2))) {
		t.Error("signed again by another router")
	}
}

// P8.1, Valid: not by another root.
func TestValidOfAnotherRoot(t *testing.T) {
	root := mss.Root(Seed(3))
	b := signed(t, api.Key{Seed: Seed(3), Next: 4}, sampleBid())
	for _, other := range []string{"", mss.Root(Seed(2)), mss.Root("seed"), root + "\x00", "\x00" + root, root[:7], root[1:], root + root, row(8), Seed(3)} {
		if Valid(b, other) {
			t.Errorf("valid by %x", other)
		}
	}
	for place := range 64 {
		other := []byte(root)
		other[place/8] ^= 1 << (place % 8)
		if Valid(b, string(other)) {
			t.Errorf("valid by %x, though it is %x", other, root)
		}
	}
}

// P8.1, Valid: not with another signature: none, one with any bit flipped, one of another text, too short or too long.
func TestValidOfAnotherSig(t *testing.T) {
	root := mss.Root(Seed(3))
	b := signed(t, api.Key{Seed: Seed(3), Next: 4}, sampleBid())
	wrong := func(what string, sig string) {
		t.Helper()
		other := b
		other.Sig = sig
		if Valid(other, root) {
			t.Errorf("valid with %s", what)
		}
	}
	for place := range 8 * len(b.Sig) {
		sig := []byte(b.Sig)
		sig[place/8] ^= 1 << (place % 8)
		wrong("bit "+strconv.Itoa(place)+" flipped", string(sig))
	}
	for _, n := range []int{0, 1, 8, 137, 144} {
		wrong(strconv.Itoa(n)+" octets of it", b.Sig[:n])
	}
	for _, more := range []string{"\x00", row(8), row(1024 - 145), row(1025 - 145), row(65536)} {
		wrong(strconv.Itoa(len(more))+" octets more", b.Sig+more)
	}
	wrong("row", row(145))
	bare, _, _ := mss.Sign(api.Key{Seed: Seed(3), Next: 4}, bidOf(b)[5:])
	wrong("a signature of the text without its first one", bare)
	empty, _, _ := mss.Sign(api.Key{Seed: Seed(3), Next: 4}, nil)
	wrong("a signature of nothing", empty)
}

// P8.1, Valid: not when anything else of the bid is another than was signed.
func TestValidOfAnotherBid(t *testing.T) {
	root := mss.Root(Seed(3))
	b := signed(t, api.Key{Seed: Seed(3), Next: 4}, sampleBid())
	changes := map[string]func(*api.Bid){
		"Router":   func(b *api.Bid) { b.Router = 2 },
		"User":     func(b *api.Bid) { b.Ask.User = 0 },
		"Send":     func(b *api.Bid) { b.Ask.Send = 1 },
		"Recv":     func(b *api.Bid) { b.Ask.Recv = 0 },
		"To":       func(b *api.Bid) { b.Ask.To = 4 },
		"asked":    func(b *api.Bid) { b.Ask.Amount[0]++ },
		"asked 3":  func(b *api.Bid) { b.Ask.Amount[3]++ },
		"Id":       func(b *api.Bid) { b.Ask.Id = "tradf" },
		"longer":   func(b *api.Bid) { b.Ask.Id = "trade\x00" },
		"shorter":  func(b *api.Bid) { b.Ask.Id = "trad" },
		"amount":   func(b *api.Bid) { b.Amount[0]++ },
		"amount 1": func(b *api.Bid) { b.Amount[1]-- },
		"until":    func(b *api.Bid) { b.Until++ },
		"as asked": func(b *api.Bid) { b.Amount = b.Ask.Amount },
	}
	for what, change := range changes {
		other := b
		change(&other)
		if Check(other) != api.OK || Valid(other, root) {
			t.Errorf("with another %s: %d, %t", what, Check(other), Valid(other, root))
		}
	}
}

// P8.1, Valid: never of a bid that may not be, though its Sig verifies: of nothing, as its text is nothing, or of its octets.
func TestValidOfWrong(t *testing.T) {
	k := api.Key{Seed: Seed(3), Next: 4}
	root := mss.Root(Seed(3))
	nothing, _, _ := mss.Sign(k, nil)
	for what, b := range wrongBids(sampleBid()) {
		b.Sig = nothing
		if Valid(b, root) {
			t.Errorf("valid with %s", what)
		}
		b.Sig, _, _ = mss.Sign(k, bidOf(b))
		if Valid(b, root) {
			t.Errorf("valid with %s, signed nevertheless", what)
		}
	}
	if Valid(api.Bid{}, root) || Valid(api.Bid{Sig: nothing}, root) || Valid(api.Bid{}, "") {
		t.Error("nothing is valid")
	}
}

// P8.1, Better: a greater Amount, or the same and a lower Router, whatever else of both is.
func TestBetter(t *testing.T) {
	all := append(amounts(), api.Wide{})
	for n, first := range all {
		for m, second := range all {
			for _, routers := range [][2]int{{2, 2}, {2, 3}, {3, 2}, {3, 3}} {
				a, b := sampleBid(), sampleBid()
				a.Amount, a.Router, a.Until, a.Sig = first, routers[0], n, row(n)
				b.Amount, b.Router, b.Until, b.Sig = second, routers[1], m, row(m)
				greater := order(first, second)
				want := greater == 1 || greater == 0 && routers[0] < routers[1]
				if Better(a, b) != want {
					t.Errorf("%x by %d better than %x by %d: want %t", first, routers[0], second, routers[1], want)
				}
			}
		}
	}
}

// P8.1, Better: Amount and Router alone tell it, also of bids that may not be, and of numbers far apart.
func TestBetterOfAny(t *testing.T) {
	routers := []int{math.MinInt, -1, 0, 1, 2, 3, 4, math.MaxInt}
	for n, first := range routers {
		for m, second := range routers {
			a, b := api.Bid{Router: first}, api.Bid{Router: second, Ask: sample(), Until: 9, Sig: "s"}
			if Better(a, b) != (n < m) || Better(b, a) != (m < n) {
				t.Errorf("router %d against %d", first, second)
			}
			a.Amount = api.Wide{1}
			if !Better(a, b) || Better(b, a) {
				t.Errorf("1 by router %d against 0 by %d", first, second)
			}
		}
	}
}

// P8.1, Seed: "router", and the router in 1 octet, the lowest one of it.
func TestSeed(t *testing.T) {
	for n := range 256 {
		want := "router" + string([]byte{byte(n)})
		for _, router := range []int{n, n + 256, n - 256, n + 1<<40, n + math.MinInt} {
			if seed := Seed(router); seed != want {
				t.Fatalf("Seed(%d) = %q, want %q", router, seed, want)
			}
		}
	}
	if Seed(2) != "router\x02" || Seed(3) != "router\x03" || Seed(-1) != "router\xff" || Seed(math.MaxInt) != "router\xff" {
		t.Errorf("Seed: %q, %q, %q, %q", Seed(2), Seed(3), Seed(-1), Seed(math.MaxInt))
	}
}

// P8.1: asks come back, one behind the other.
func TestAsksComeBack(t *testing.T) {
	l := asks()
	for from := 0; from+8 <= len(l); from += 8 {
		some := l[from : from+8]
		b, err := put(func(w *field.Out) {
			for _, a := range some {
				PutAsk(w, a)
			}
		})
		if err != api.OK {
			t.Fatalf("PutAsk: %d", err)
		}
		r := field.Open(b)
		for _, want := range some {
			if a := GetAsk(r); a != want {
				t.Fatalf("%v came back as %v", want, a)
			}
		}
		read(t, "all came back", r, api.OK, 0)
	}
}

// P1 of DOC.md: of objects that nobody made nothing is read, and they take nothing.
func TestOfWhatNobodyMade(t *testing.T) {
	for what, w := range map[string]*field.Out{"nil": nil, "zero": {}} {
		PutAsk(w, sample())
		PutAsk(w, api.Ask{User: -1})
		if b, err := w.Done(); err != api.ErrState || len(b) != 0 {
			t.Errorf("%s: %x, %d", what, b, err)
		}
	}
	for what, r := range map[string]*field.In{"nil": nil, "zero": {}} {
		if a := GetAsk(r); a != (api.Ask{}) {
			t.Errorf("%s: %v", what, a)
		}
		read(t, what, r, api.ErrState, 0)
	}
}

// P8.3, P2 of DOC.md: an answer of Text shares nothing with another one, up to its capacity.
func TestTextIsNewMemory(t *testing.T) {
	b := sampleBid()
	first, second := Text(b), Text(b)
	for i := range second[:cap(second)] {
		second[:cap(second)][i] ^= 0xff
	}
	if third := Text(b); !bytes.Equal(first, bidOf(b)) || !bytes.Equal(third, first) {
		t.Errorf("behind a spoilt answer: %x, %x", first, third)
	}
	if b != sampleBid() {
		t.Error("the bid changed with an answer")
	}
}

// P8.3, P2 of DOC.md: what is read changes no octets that were handed in, and does not change with them.
func TestReadIsNewMemory(t *testing.T) {
	all := askOf(sample())
	b := slices.Clone(all)
	r := field.Open(b)
	a := GetAsk(r)
	if !bytes.Equal(b, all) {
		t.Errorf("%x became %x", all, b)
	}
	for n := range b {
		b[n] ^= 0xff
	}
	if a != sample() {
		t.Errorf("what was read changed: %v", a)
	}
}

// P8.3, P2 of DOC.md: what is handed to Sign stays as it was.
func TestSignChangesNothing(t *testing.T) {
	k, b := api.Key{Seed: "seed", Next: 2}, sampleBid()
	b.Sig = "old"
	signed(t, k, b)
	want := sampleBid()
	want.Sig = "old"
	if k != (api.Key{Seed: "seed", Next: 2}) || b != want {
		t.Errorf("handed in, and changed: %v, %v", k, b)
	}
}

// P3 of DOC.md: the same again answers the same, also side by side.
func TestSideBySide(t *testing.T) {
	all := func() string {
		var out strings.Builder
		for n, b := range bids() {
			if n%40 != 0 {
				continue
			}
			s, k, err := Sign(api.Key{Seed: Seed(2 + n%2), Next: n % 9}, b)
			r := field.Open(askOf(b.Ask))
			out.WriteString(strconv.Itoa(int(err)) + s.Sig + strconv.Itoa(k.Next) + string(Text(b)) + GetAsk(r).Id)
			out.WriteString(strconv.FormatBool(Valid(s, mss.Root(Seed(2)))) + strconv.FormatBool(Better(b, sampleBid())))
		}
		return out.String()
	}
	want := all()
	same := make(chan bool)
	for range 4 {
		go func() { same <- all() == want }()
	}
	for range 4 {
		if !<-same {
			t.Error("answers differ when calls run side by side")
		}
	}
}
