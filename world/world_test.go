package world

import (
	"fmt"
	"math"
	"reflect"
	"slices"
	"testing"

	"narrows/api"
	"narrows/bid"
	"narrows/chain"
	"narrows/client"
	"narrows/deal"
	"narrows/escrow"
	"narrows/mail"
	"narrows/mss"
	"narrows/router"
	"narrows/txs"
	"narrows/wide"
)

// plenty is a disk's room that nothing here uses up.
const plenty = 1 << 16

// made is a world of that setup.
func made(t *testing.T, s Setup) *World {
	t.Helper()
	w, err := New(s)
	if err != api.OK || w == nil {
		t.Fatalf("New(%v) = %d", s, err)
	}
	return w
}

// plain is a world without corrupted parties, with plenty of room.
func plain(t *testing.T, d int) *World {
	t.Helper()
	return made(t, Setup{Delay: d, Room: plenty})
}

// steps lets steps happen, each of a kind, A and B.
func steps(w *World, l ...[3]int) {
	for _, x := range l {
		w.Step(api.Step{Kind: x[0], A: x[1], B: x[2]})
	}
}

// rounds is so many fair rounds.
func rounds(w *World, n int) {
	for range n {
		w.Step(api.Step{Kind: 13})
	}
}

// put is a message's octets.
func put(t *testing.T, m api.Message) []byte {
	t.Helper()
	b, err := mail.Put(m)
	if err != api.OK {
		t.Fatalf("Put(%#v) = %d", m, err)
	}
	return b
}

// octets is a transaction's.
func octets(t *testing.T, x api.Tx) []byte {
	t.Helper()
	b, err := txs.Octets(x)
	if err != api.OK {
		t.Fatalf("Octets(%#v) = %d", x, err)
	}
	return b
}

// read is the message of a letter.
func read(t *testing.T, l api.Mail) api.Message {
	t.Helper()
	m, err := mail.Read(l.Data)
	if err != api.OK {
		t.Fatalf("Read(%#v) = %d", l, err)
	}
	return m
}

// submit submits a transaction by a step, and includes it.
func submit(t *testing.T, w *World, side int, x api.Tx) {
	t.Helper()
	x.Nonce = w.Side(side).Next(x.From)
	many := len(w.Side(side).Events(0))
	w.Step(api.Step{Kind: 6, B: side, Data: octets(t, x)})
	w.Step(api.Step{Kind: 8, A: -1, B: side})
	if len(w.Side(side).Events(0)) != many+1 {
		t.Fatalf("it is not included: %#v", x)
	}
}

// last is the code of the last event of a side.
func last(w *World, side int) api.Errno {
	l := w.Side(side).Events(0)
	return l[len(l)-1].Code
}

// view is all that is to be seen of a world.
func view(w *World) string {
	s := fmt.Sprintf("now %d mail %v forged %t clash %t setup %v\n", w.Now(), w.Mail(), w.Forged(), w.Clash(), w.Setup())
	for side := range 2 {
		c := w.Side(side)
		s += fmt.Sprintf("side %v %#v %#v\n", c.State(), c.Pool(), c.Events(0))
	}
	for n := -1; n < 9; n++ {
		s += fmt.Sprintf("%d late %t", n, w.Late(n))
		if c := w.Client(n); c != nil {
			s += fmt.Sprintf(" down %t %#v %q", c.Down(), c.Deals(), c.Signed())
		}
		if r := w.Router(n); r != nil {
			s += fmt.Sprintf(" down %t %#v %#v", r.Down(), r.Bids(), r.Mirrors())
		}
		s += "\n"
	}
	if c, ok := w.at(4).(carrier); ok {
		s += fmt.Sprint("relayer ", c.Count())
	}
	return s
}

// numbers is odd numbers, and edges.
func numbers() []int {
	return []int{math.MinInt, math.MinInt + 1, -1 << 40, -129, -5, -4, -2, -1, 0, 1, 2, 3, 4, 5, 7, 8, 31, 32, 64, 65, 128, 512, 1 << 16, 1 << 40, math.MaxInt - 1, math.MaxInt}
}

// P24.1, New: what may be a setup, and ErrRange for all else.
func TestNew(t *testing.T) {
	fits := func(s Setup) bool {
		return s.Delay >= 1 && s.Delay <= 4 && s.Skew >= -100 && s.Skew <= 100 && s.Corrupt >= 0 && s.Corrupt <= 31 && s.Room >= 0 && s.Room <= 65536
	}
	try := func(s Setup) {
		w, err := New(s)
		if fits(s) != (err == api.OK) || fits(s) != (w != nil) || err != api.OK && err != api.ErrRange {
			t.Errorf("New(%v) = %v, %d", s, w != nil, err)
		}
		if w != nil && w.Setup() != s {
			t.Errorf("Setup() = %v, not %v", w.Setup(), s)
		}
	}
	edges := append(numbers(), -101, -100, -99, 99, 100, 101, 30, 33, 65535, 65537)
	for _, n := range edges {
		try(Setup{Delay: n, Room: 9})
		try(Setup{Delay: 1, Skew: n})
		try(Setup{Delay: 2, Corrupt: n})
		try(Setup{Delay: 4, Room: n})
	}
	try(Setup{})
	try(Setup{Delay: 4, Skew: 100, Corrupt: 31, Room: 65536})
	try(Setup{Delay: 1, Skew: -100})
}

// P24.1: a new world has both sides, with vaults filled, and all parties that are not corrupted; nothing is on its way.
func TestFirst(t *testing.T) {
	for corrupt := range 32 {
		s := Setup{Delay: 1 + corrupt%4, Skew: 6*corrupt - 100, Corrupt: corrupt, Room: plenty}
		w := made(t, s)
		near, far := escrow.Genesis(0, 1000), escrow.Genesis(1, 1000+s.Skew)
		var events []api.Event
		for n := 2; n < 4; n++ {
			for asset := 0; asset < 2 && corrupt>>n&1 == 0; asset++ {
				x := api.Tx{From: n, Nonce: asset, Kind: 2, Asset: asset, Amount: wide.Of(400), Inv: api.Inv{Router: n}}
				far, _, _ = escrow.Apply(far, x)
				events = append(events, api.Event{Time: 1000 + s.Skew, Tx: x})
			}
		}
		if got := w.Side(0); !reflect.DeepEqual(got.State(), near) || len(got.Events(0))+len(got.Pool()) != 0 {
			t.Errorf("%v: the sending side is %#v", s, got.State())
		}
		if got := w.Side(1); !reflect.DeepEqual(got.State(), far) || !slices.Equal(got.Events(0), events) || len(got.Pool()) != 0 {
			t.Errorf("%v: the receiving side is %#v, %#v", s, got.State(), got.Events(0))
		}
		for _, n := range numbers() {
			if got, want := w.Client(n) != nil, (n == 0 || n == 1) && corrupt>>n&1 == 0; got != want {
				t.Errorf("%v: Client(%d) = %t", s, n, got)
			}
			if got, want := w.Router(n) != nil, (n == 2 || n == 3) && corrupt>>n&1 == 0; got != want {
				t.Errorf("%v: Router(%d) = %t", s, n, got)
			}
			if got, want := w.Side(n) != nil, n == 0 || n == 1; got != want {
				t.Errorf("%v: Side(%d) = %t", s, n, got)
			}
			if w.Late(n) {
				t.Errorf("%v: %d is late", s, n)
			}
		}
		if w.Now() != 0 || len(w.Mail()) != 0 || w.Forged() || w.Clash() || w.Setup() != s {
			t.Errorf("%v: %s", s, view(w))
		}
		for n := range 2 {
			if c := w.Client(n); c != nil && (c.Root() != mss.Root(client.Seed(n)) || c.Down() || len(c.Deals()) != 0) {
				t.Errorf("%v: user %d is another one", s, n)
			}
		}
	}
}

// P24.1: what Side, Client and Router answer is the world's own.
func TestOwn(t *testing.T) {
	w := plain(t, 1)
	before := w.Side(0).Time()
	w.Side(0).Rise(5)
	if w.Side(0).Time() != before+5 || w.Side(0) != w.Side(0) || w.Client(1) != w.Client(1) || w.Router(3) != w.Router(3) {
		t.Error("it answers others each time")
	}
	w.Client(1).Fall(w.Side(0), w.Side(1), 0)
	w.Router(2).Fall(w.Side(0), w.Side(1), 0)
	steps(w, [3]int{9, 1, 5})
	if len(w.Mail()) != 0 || !w.Client(1).Down() || !w.Router(2).Down() || w.Client(0).Down() || w.Router(3).Down() {
		t.Error("the world goes on with others")
	}
}

// Step 1: a tick: the clock and both sides' times rise by 1, and nothing else.
func TestTick(t *testing.T) {
	w := made(t, Setup{Delay: 4, Skew: -33, Room: 9})
	near, far := w.Side(0).State(), w.Side(1).State()
	for n := 1; n < 9; n++ {
		w.Step(api.Step{Kind: 1, A: n, B: -n, C: 77, Data: []byte("x")})
		near.Time, far.Time = 1000+n, 967+n
		if w.Now() != n || !reflect.DeepEqual(w.Side(0).State(), near) || !reflect.DeepEqual(w.Side(1).State(), far) || len(w.Mail()) != 0 {
			t.Fatalf("tick %d: %s", n, view(w))
		}
	}
}

// Steps of other kinds, and of parties that there are not, are nothing.
func TestNothing(t *testing.T) {
	w := made(t, Setup{Delay: 2, Corrupt: 2 | 8, Room: plenty})
	steps(w, [3]int{9, 0, 50}, [3]int{13, 0, 0}, [3]int{9, 0, 50}, [3]int{2, 2, 0})
	want := view(w)
	nothing := func(x api.Step) {
		w.Step(x)
		if view(w) != want {
			t.Fatalf("%v: %s; it was %s", x, view(w), want)
		}
	}
	for _, kind := range append(numbers(), 14, 15, 16, 17, 18, 257, 269) {
		if kind >= 1 && kind <= 13 {
			continue
		}
		for n := -1; n < 6; n++ {
			nothing(api.Step{Kind: kind, A: n, B: 1, C: 1, Data: []byte("x")})
		}
	}
	for _, n := range numbers() {
		// 1 and 3 are corrupted; to look, fall, start, ask and recall there is nobody.
		none := n < 0 || n > 4 || n == 1 || n == 3
		if none {
			nothing(api.Step{Kind: 2, A: n})
		}
		if none || n == 4 {
			nothing(api.Step{Kind: 10, A: n, B: 9})
			nothing(api.Step{Kind: 11, A: n})
		}
		if n != 0 {
			nothing(api.Step{Kind: 9, A: n, B: 5})
			nothing(api.Step{Kind: 12, A: n})
		}
		if n < 0 || n > 4 {
			nothing(api.Step{Kind: 7, A: n, Data: []byte("x")})
		}
		if n <= 0 {
			nothing(api.Step{Kind: 9, A: 0, B: n})
		}
		// There is no deal yet, and all are up; nothing waits.
		nothing(api.Step{Kind: 12, A: 0, B: n})
		nothing(api.Step{Kind: 11, A: n})
		nothing(api.Step{Kind: 8, A: n, B: 0})
		nothing(api.Step{Kind: 8, A: n, B: 1})
	}
}

// Step 9: a user asks, for an account of its own, under a name of its own; both routers are told.
func TestAsk(t *testing.T) {
	w := plain(t, 1)
	var want []api.Mail
	many := [2]byte{}
	for _, x := range []api.Step{
		{Kind: 9, A: 0, B: 1, C: 0}, {Kind: 9, A: 1, B: 400, C: 1}, {Kind: 9, A: 1, B: 5, C: -1}, {Kind: 9, A: 0, B: math.MaxInt, C: 2},
		{Kind: 9, A: 0, B: 1, C: 0}, {Kind: 9, A: 1, B: 3, C: -2}, {Kind: 9, A: 1, B: 3, C: math.MinInt}, {Kind: 9, A: 1, B: 3, C: math.MaxInt},
	} {
		w.Step(x)
		many[x.A]++
		asset := 0
		if x.C == 1 || x.C == -1 || x.C == math.MaxInt {
			asset = 1
		}
		a := api.Ask{User: x.A, Send: asset, Recv: asset, To: x.A + 5, Amount: wide.Of(uint64(x.B)), Id: string([]byte{0, byte(x.A), 0, many[x.A]})}
		for to := 2; to < 4; to++ {
			want = append(want, api.Mail{To: to, Data: put(t, api.Message{Kind: 1, Ask: a})})
		}
		if got := w.Mail(); !reflect.DeepEqual(got, want) {
			t.Fatalf("%v: %v is on its way, not %v", x, got, want)
		}
	}
	if len(w.Client(0).Deals())+len(w.Side(0).Pool())+w.Now() != 0 {
		t.Error("something else came of it")
	}
}

// Step 9: what a user does not ask for has no number: its room is full, or it is down.
func TestAskRefused(t *testing.T) {
	w := plain(t, 1)
	for n := range 9 {
		steps(w, [3]int{9, 0, 1 + n})
	}
	if len(w.Mail()) != 16 {
		t.Fatalf("%d letters", len(w.Mail()))
	}
	steps(w, [3]int{10, 0, 0}, [3]int{9, 0, 5})
	if len(w.Mail()) != 16 {
		t.Fatalf("%d letters of a user that is down", len(w.Mail()))
	}
	steps(w, [3]int{11, 0, 0}, [3]int{9, 0, 5}, [3]int{9, 1, 5})
	l := w.Mail()
	if len(l) != 20 || read(t, l[16]).Ask.Id != "\x00\x00\x00\x09" || read(t, l[18]).Ask.Id != "\x00\x01\x00\x01" {
		t.Errorf("%v", l)
	}
}

// Step 9: the auction opens at the sending side's time, whatever the other one's is.
func TestAskTime(t *testing.T) {
	for _, skew := range []int{-100, 0, 100} {
		w := made(t, Setup{Delay: 1, Skew: skew, Room: plenty})
		steps(w, [3]int{1, 0, 0}, [3]int{1, 0, 0}, [3]int{9, 0, 50}, [3]int{3, 0, 0}, [3]int{2, 2, 0}, [3]int{3, 1, 0}, [3]int{2, 0, 0})
		if len(w.Client(0).Deals()) != 0 {
			t.Errorf("skew %d: the window was over at once", skew)
		}
		steps(w, [3]int{1, 0, 0}, [3]int{2, 0, 0})
		if len(w.Client(0).Deals()) != 1 {
			t.Errorf("skew %d: the window is not over", skew)
		}
	}
}

// Steps 2 and 3: a trade, step by step: who tells whom what, and what is submitted where.
func TestTrade(t *testing.T) {
	w := plain(t, 2)
	w.Step(api.Step{Kind: 9, A: 1, B: 100, C: 1})
	steps(w, [3]int{3, 1, 0}, [3]int{2, 3, 0}, [3]int{2, 2, 0})
	l := w.Mail()
	if len(l) != 2 || l[0].To != 2 || l[1].To != 1 || read(t, l[1]).Bid != w.Router(3).Bids()[0] || len(w.Router(2).Bids()) != 0 {
		t.Fatalf("router 3 alone heard it, and bids for user 1: %v", l)
	}
	steps(w, [3]int{3, 0, 0}, [3]int{2, 2, 0}, [3]int{3, 1, 0}, [3]int{3, 0, 0}, [3]int{1, 0, 0}, [3]int{2, 1, 0})
	deals := w.Client(1).Deals()
	if len(deals) != 1 || deals[0].Inv.Router != 2 || deals[0].Offer != wide.Of(100) || deals[0].Var.Expiry != 1045 || deals[0].Inv.To != 6 || len(w.Mail()) != 0 {
		t.Fatalf("user 1 has %#v", deals)
	}
	key := deal.Key(deals[0].Inv)
	status := func(near int, far int) {
		t.Helper()
		if escrow.Status(w.Side(0).State(), key) != near || escrow.Status(w.Side(1).State(), key) != far {
			t.Fatalf("%d, %d", escrow.Status(w.Side(0).State(), key), escrow.Status(w.Side(1).State(), key))
		}
	}
	steps(w, [3]int{8, 0, 0}, [3]int{2, 2, 0})
	status(1, 0)
	steps(w, [3]int{8, 0, 1}, [3]int{2, 1, 0})
	status(1, 1)
	l = w.Mail()
	if len(l) != 1 || l[0].To != 4 || read(t, l[0]).Kind != 3 || !w.Side(1).Waits(1, key, 5) {
		t.Fatalf("it is released: %v", l)
	}
	steps(w, [3]int{3, 0, 0}, [3]int{2, 4, 0})
	if !w.Side(1).Waits(4, key, 5) || len(w.Mail()) != 0 {
		t.Fatal("the relayer brings it")
	}
	// The relayer's goes ahead.
	steps(w, [3]int{8, 1, 1})
	status(1, 2)
	state := w.Side(1).State()
	if state.Purse.Of(4, 1) != wide.Of(1001) || state.Purse.Of(6, 1) != wide.Of(1099) {
		t.Errorf("%v", state.Purse)
	}
	steps(w, [3]int{2, 2, 0}, [3]int{8, 0, 0})
	status(2, 2)
	if w.Side(0).State().Vault.Of(2, 1) != wide.Of(100) || w.Forged() || w.Clash() {
		t.Errorf("%v", w.Side(0).State().Vault)
	}
}

// ready is a world in which both routers bid for what user 0 asked for, and the bids are on their way.
func ready(t *testing.T, s Setup) *World {
	t.Helper()
	w := made(t, s)
	steps(w, [3]int{9, 0, 100}, [3]int{3, 0, 0}, [3]int{3, 0, 0}, [3]int{2, 2, 0}, [3]int{2, 3, 0}, [3]int{1, 0, 0})
	if l := w.Mail(); len(l) != 2 || l[0].To != 0 || l[1].To != 0 {
		t.Fatalf("%v", l)
	}
	return w
}

// Steps 3 to 5: places are counted round; what is delivered or lost is no longer on its way, what is twinned stands behind the others, too.
func TestWay(t *testing.T) {
	for _, n := range numbers() {
		w := plain(t, 1)
		steps(w, [3]int{3, n, 0}, [3]int{4, n, 0}, [3]int{5, n, 0})
		if len(w.Mail()) != 0 {
			t.Fatalf("%v comes of nothing", w.Mail())
		}
		var l []api.Mail
		for place := range 5 {
			w.Step(api.Step{Kind: 7, A: place, Data: []byte{byte(place), 0}})
			l = append(l, api.Mail{To: place, Data: []byte{byte(place), 0}})
		}
		at := (n%5 + 5) % 5
		steps(w, [3]int{5, n, 0})
		l = append(l, l[at])
		if !reflect.DeepEqual(w.Mail(), l) {
			t.Errorf("twin %d: %v", n, w.Mail())
		}
		for _, kind := range []int{3, 4} {
			at = (n%len(l) + len(l)) % len(l)
			steps(w, [3]int{kind, n, 0})
			l = slices.Delete(l, at, at+1)
			if !reflect.DeepEqual(w.Mail(), l) {
				t.Errorf("step %d of %d: %v, not %v", kind, n, w.Mail(), l)
			}
		}
	}
}

// Step 3: what is delivered is heard; step 4: what is lost is not; step 5: both of two are the same.
func TestDelivered(t *testing.T) {
	release := func(fee uint64) []byte {
		return put(t, api.Message{Kind: 3, Inv: api.Inv{Root: "01234567", Router: 2, Id: "x"}, Var: api.Var{Amount: wide.Of(9)}, Fee: wide.Of(fee)})
	}
	w := ready(t, Setup{Delay: 1, Room: plenty})
	steps(w, [3]int{5, 1, 0}, [3]int{4, 0, 0}, [3]int{4, 0, 0}, [3]int{3, 0, 0}, [3]int{2, 0, 0})
	if d := w.Client(0).Deals(); len(d) != 1 || d[0].Inv.Router != 3 || len(w.Mail()) != 0 {
		t.Errorf("router 3's bid alone came, once: %#v", d)
	}
	for fee := range uint64(3) {
		w.Step(api.Step{Kind: 7, A: 4, Data: release(fee)})
	}
	c := w.at(4).(carrier)
	for place, want := range []int{1, 2, 2} {
		// Round from the last one on; one without a fee is not kept.
		steps(w, [3]int{3, -1, 0})
		if c.Count() != want || len(w.Mail()) != 2-place {
			t.Errorf("%d are kept, %d are on their way", c.Count(), len(w.Mail()))
		}
	}
}

// Step 3: what is for a party that is down, or corrupted, is no longer on its way, and was not heard.
func TestDeliveredToNobody(t *testing.T) {
	w := ready(t, Setup{Delay: 1, Room: plenty})
	steps(w, [3]int{10, 0, 0}, [3]int{3, 0, 0}, [3]int{11, 0, 0}, [3]int{3, 0, 0})
	w.Step(api.Step{Kind: 9, A: 0, B: 7})
	steps(w, [3]int{10, 2, 0}, [3]int{3, 0, 0}, [3]int{3, 0, 0}, [3]int{11, 2, 0}, [3]int{2, 2, 0}, [3]int{2, 3, 0})
	l := w.Mail()
	if len(l) != 1 || read(t, l[0]).Bid.Router != 3 {
		t.Errorf("router 2 was down: %v", l)
	}
	for corrupt := range 32 {
		w := made(t, Setup{Delay: 1, Corrupt: corrupt, Room: plenty})
		for n := range 5 {
			w.Step(api.Step{Kind: 7, A: n, Data: []byte("x")})
		}
		if len(w.Mail()) != 5 {
			t.Errorf("corrupt %d: %v", corrupt, w.Mail())
		}
		for range 5 {
			steps(w, [3]int{3, 0, 0})
		}
		if len(w.Mail()) != 0 {
			t.Errorf("corrupt %d: %v", corrupt, w.Mail())
		}
	}
}

// Step 3: a user hears of a bid at the sending side's time, whatever the other one's is.
func TestHeardTime(t *testing.T) {
	for _, skew := range []int{-100, 0, 100} {
		for _, until := range []int{1000, 1001, 1002} {
			w := made(t, Setup{Delay: 1, Skew: skew, Corrupt: 4, Room: plenty})
			steps(w, [3]int{9, 0, 50}, [3]int{1, 0, 0})
			b, _, _ := bid.Sign(api.Key{Seed: bid.Seed(2)}, api.Bid{Router: 2, Ask: read(t, w.Mail()[0]).Ask, Amount: wide.Of(50), Until: until})
			w.Step(api.Step{Kind: 7, A: 0, Data: put(t, api.Message{Kind: 2, Bid: b})})
			steps(w, [3]int{3, -1, 0}, [3]int{2, 0, 0})
			// The bid of a corrupted router wins, if it is not past.
			if got := len(w.Client(0).Deals()) == 1; got != (until > 1000) {
				t.Errorf("skew %d, until %d: %t", skew, until, got)
			}
		}
	}
}

// Step 7: data are on their way to a party, corrupted or not; any data, MaxMail of them.
func TestTell(t *testing.T) {
	for _, corrupt := range []int{0, 31} {
		w := made(t, Setup{Delay: 1, Corrupt: corrupt, Room: plenty})
		var want []api.Mail
		for n := -3; n < 9; n++ {
			for _, data := range [][]byte{{0}, []byte("data"), make([]byte, 1<<14)} {
				w.Step(api.Step{Kind: 7, A: n, B: 1, C: 2, Data: data})
				if n >= 0 && n < 5 {
					want = append(want, api.Mail{To: n, Data: data})
				}
			}
		}
		if !reflect.DeepEqual(w.Mail(), want) {
			t.Errorf("corrupt %d: %d letters", corrupt, len(w.Mail()))
		}
		w.Step(api.Step{Kind: 7, A: 4})
		if l := w.Mail(); len(l) != 16 || l[15].To != 4 || len(l[15].Data) != 0 {
			t.Errorf("no data: %d letters", len(l))
		}
		for range 600 {
			w.Step(api.Step{Kind: 7, A: 0, Data: []byte("more")})
		}
		if len(w.Mail()) != 512 {
			t.Errorf("%d are on their way", len(w.Mail()))
		}
	}
}

// Step 6: a transaction is submitted, if its sender is corrupted, or 5 to 7; to the side that B tells.
func TestSubmit(t *testing.T) {
	for corrupt := range 32 {
		for from := range 8 {
			for _, b := range []int{0, 1, -1, -2, 7, math.MaxInt, math.MinInt} {
				w := made(t, Setup{Delay: 1, Corrupt: corrupt, Room: plenty})
				x := api.Tx{From: from, Nonce: 3, Kind: 1, Asset: 1, Amount: wide.Of(9), Inv: api.Inv{To: 7}}
				w.Step(api.Step{Kind: 6, A: 5, B: b, C: 9, Data: octets(t, x)})
				var want [2][]api.Tx
				if from > 4 || corrupt>>from&1 == 1 {
					side := 0
					if b == 1 || b == -1 || b == 7 || b == math.MaxInt {
						side = 1
					}
					want[side] = []api.Tx{x}
				}
				for side := range 2 {
					if got := w.Side(side).Pool(); !slices.Equal(got, want[side]) {
						t.Fatalf("corrupt %d, of %d, B %d: %v waits", corrupt, from, b, got)
					}
				}
			}
		}
	}
}

// Step 6: what is no transaction is nothing; each kind is, as it is read.
func TestSubmitKinds(t *testing.T) {
	w := plain(t, 1)
	i, v := api.Inv{Root: "01234567", Router: 3, Send: 1, To: 4, Id: "x"}, api.Var{Amount: wide.Of(9), Expiry: 1020}
	l := []api.Tx{
		{From: 5, Kind: 1, Asset: 1, Amount: wide.Of(9), Inv: api.Inv{To: 7}},
		{From: 5, Nonce: 1, Kind: 2, Amount: wide.Of(9), Inv: api.Inv{Router: 2}},
		{From: 6, Kind: 3, Amount: wide.Of(9)},
		{From: 7, Kind: 4, Inv: i, Var: v},
		{From: 7, Nonce: 1, Kind: 5, Inv: i, Var: v, Fee: wide.Of(2), Sig: "sig"},
		{From: 6, Nonce: 1, Kind: 6, Inv: i, Var: v, Sig: "sig"},
	}
	for place, x := range l {
		b := octets(t, x)
		for _, data := range [][]byte{nil, b[:len(b)-1], append(slices.Clone(b), 0), []byte("x")} {
			w.Step(api.Step{Kind: 6, Data: data})
		}
		w.Step(api.Step{Kind: 6, Data: b})
		w.Step(api.Step{Kind: 6, Data: b})
		if got := w.Side(0).Pool(); !slices.Equal(got, l[:place+1]) {
			t.Fatalf("%v waits", got)
		}
	}
	if len(w.Side(1).Pool()) != 0 {
		t.Error("it waits on the other side, too")
	}
}

// Step 8: of a side the A-th that waits is included, counted round, if it is taken.
func TestInclude(t *testing.T) {
	for _, n := range numbers() {
		for _, b := range []int{0, 1, -1, -2, 8, 9} {
			w := plain(t, 1)
			var l [2][]api.Tx
			for side := range 2 {
				for from := 5; from < 8; from++ {
					x := api.Tx{From: from, Kind: 1, Amount: wide.Of(9), Inv: api.Inv{To: side}}
					w.Step(api.Step{Kind: 6, B: side, Data: octets(t, x)})
					l[side] = append(l[side], x)
				}
			}
			many := [2]int{0, 4}
			w.Step(api.Step{Kind: 8, A: n, B: b})
			side, at := (b%2+2)%2, (n%3+3)%3
			events := w.Side(side).Events(0)
			if len(events) != many[side]+1 || events[many[side]] != (api.Event{Time: 1000, Tx: l[side][at]}) {
				t.Fatalf("A %d, B %d: %v", n, b, events)
			}
			if got := w.Side(side).Pool(); !slices.Equal(got, slices.Delete(l[side], at, at+1)) || len(w.Side(1-side).Pool()) != 3 {
				t.Fatalf("A %d, B %d: %v waits", n, b, got)
			}
		}
	}
	w := plain(t, 1)
	w.Step(api.Step{Kind: 6, Data: octets(t, api.Tx{From: 5, Nonce: 1, Kind: 1, Amount: wide.Of(9)})})
	steps(w, [3]int{8, 0, 0})
	if len(w.Side(0).Events(0)) != 0 || len(w.Side(0).Pool()) != 1 {
		t.Error("what is not taken waits on")
	}
}

// How many octets a record has in the journal, of a router's bid, and of a user's deal.
const (
	bidOctets  = 112
	dealOctets = 118
)

// Steps 10 and 11: a user or router falls as it looks, and so many octets last; it is down till it is up.
func TestFall(t *testing.T) {
	for _, keep := range append(numbers(), bidOctets-1, bidOctets, dealOctets-1, dealOctets, 999) {
		w := plain(t, 1)
		steps(w, [3]int{9, 0, 100}, [3]int{3, 0, 0}, [3]int{3, 0, 0}, [3]int{10, 2, keep})
		if got := len(w.Router(2).Bids()); got != map[bool]int{true: 1}[keep >= bidOctets] || !w.Router(2).Down() || w.Router(3).Down() || len(w.Mail()) != 0 {
			t.Errorf("keep %d: %d bids, %v", keep, got, w.Mail())
		}
		steps(w, [3]int{11, 3, 0}, [3]int{2, 2, 0})
		if !w.Router(2).Down() {
			t.Error("another one is up")
		}
		steps(w, [3]int{11, 2, 0}, [3]int{2, 2, 0})
		if w.Router(2).Down() || len(w.Mail()) != 0 {
			t.Errorf("behind Up no ask is heard: %v", w.Mail())
		}
		// A user that falls sends nothing of what lasted, till it is up.
		w = ready(t, Setup{Delay: 1, Skew: 40, Room: plenty})
		steps(w, [3]int{3, 0, 0}, [3]int{3, 0, 0}, [3]int{10, 0, keep}, [3]int{2, 0, 0})
		if l := w.Client(0).Deals(); len(l) > 0 && l[0].Var.Expiry != 1029 {
			t.Errorf("keep %d: %#v", keep, l)
		}
		if got := len(w.Client(0).Deals()); got != map[bool]int{true: 1}[keep >= dealOctets] || !w.Client(0).Down() || len(w.Side(0).Pool()) != 0 {
			t.Errorf("keep %d: %d deals", keep, got)
		}
		steps(w, [3]int{11, 0, 0}, [3]int{2, 0, 0})
		if got := len(w.Side(0).Pool()); got != len(w.Client(0).Deals()) {
			t.Errorf("keep %d: %d are sent", keep, got)
		}
	}
}

// Steps 10 and 11: who is down falls no more; who is up stays so; the relayer does neither.
func TestPower(t *testing.T) {
	for n := range 4 {
		w := plain(t, 1)
		down := func() bool {
			if n < 2 {
				return w.Client(n).Down()
			}
			return w.Router(n).Down()
		}
		for _, x := range []struct {
			kind int
			want bool
		}{{11, false}, {10, true}, {10, true}, {11, false}, {11, false}, {10, true}} {
			steps(w, [3]int{x.kind, n, 0})
			if down() != x.want {
				t.Fatalf("%d, step %d: down is %t", n, x.kind, down())
			}
		}
	}
}

// Step 12: a user recalls its deal at that place, counted round.
func TestRecall(t *testing.T) {
	for _, n := range numbers() {
		w := plain(t, 1)
		for amount := range 3 {
			steps(w, [3]int{9, 0, 10 + amount})
		}
		rounds(w, 2)
		if len(w.Client(0).Deals()) != 3 {
			t.Fatalf("%#v", w.Client(0).Deals())
		}
		steps(w, [3]int{12, 0, n}, [3]int{12, 0, n}, [3]int{12, 1, n})
		for place, d := range w.Client(0).Deals() {
			want := 0
			if place == (n%3+3)%3 {
				want = 2
			}
			if d.Act != want {
				t.Errorf("B %d: deal %d has act %d", n, place, d.Act)
			}
		}
	}
}

// Example 4 of the whole: a user recalls, and the receiving side is cancelled early, by signature.
func TestRecalled(t *testing.T) {
	w := plain(t, 4)
	steps(w, [3]int{9, 0, 100})
	rounds(w, 2)
	steps(w, [3]int{12, 0, 0})
	rounds(w, 3)
	key := deal.Key(w.Client(0).Deals()[0].Inv)
	if escrow.Status(w.Side(1).State(), key) != 3 || w.Side(1).Time() >= w.Router(2).Mirrors()[0].Var.Expiry || w.Forged() {
		t.Fatal(view(w))
	}
	rounds(w, 80)
	if escrow.Status(w.Side(0).State(), key) != 3 || w.Side(0).State().Purse.Of(0, 0) != wide.Of(998) {
		t.Error("the sending side is not cancelled when it is past")
	}
}

// P24.1: a disk has the setup's room: without it a party is down as soon as it has something to keep.
func TestRoom(t *testing.T) {
	for _, room := range []int{0, bidOctets - 1, bidOctets, dealOctets - 1, dealOctets} {
		w := made(t, Setup{Delay: 1, Room: room})
		steps(w, [3]int{2, 2, 0}, [3]int{9, 0, 100}, [3]int{3, 0, 0}, [3]int{2, 2, 0})
		if w.Router(2).Down() != (room < bidOctets) {
			t.Errorf("room %d: router 2 is down: %t", room, w.Router(2).Down())
		}
		w = made(t, Setup{Delay: 1, Room: room, Corrupt: 4})
		steps(w, [3]int{9, 0, 100})
		b, _, _ := bid.Sign(api.Key{Seed: bid.Seed(2)}, api.Bid{Router: 2, Ask: read(t, w.Mail()[0]).Ask, Amount: wide.Of(99), Until: 2000})
		w.Step(api.Step{Kind: 7, A: 0, Data: put(t, api.Message{Kind: 2, Bid: b})})
		steps(w, [3]int{3, -1, 0}, [3]int{1, 0, 0}, [3]int{2, 0, 0})
		if w.Client(0).Down() != (room < dealOctets) {
			t.Errorf("room %d: user 0 is down: %t", room, w.Client(0).Down())
		}
	}
}

// P24.1: parties have the setup's delay.
func TestDelay(t *testing.T) {
	for d := 1; d <= 4; d++ {
		w := plain(t, d)
		steps(w, [3]int{9, 1, 100})
		rounds(w, 3)
		if got := w.Router(2).Bids()[0].Until; got != 1000+8*d+8 {
			t.Errorf("delay %d: the bid holds until %d", d, got)
		}
		if got := w.Client(1).Deals()[0].Var.Expiry; got != 1001+16*d+12 {
			t.Errorf("delay %d: the deal lasts until %d", d, got)
		}
		if got := w.Router(2).Mirrors()[0].Var.Expiry; got != 1002+8*d+4 {
			t.Errorf("delay %d: the mirror lasts until %d", d, got)
		}
	}
}

// Of a world that nobody made all is zero, and nothing is told to it.
func TestNobodyMade(t *testing.T) {
	var zero World
	for name, w := range map[string]*World{"nil": nil, "zero": &zero, "new": new(World)} {
		for kind := -1; kind < 15; kind++ {
			for _, n := range numbers() {
				w.Step(api.Step{Kind: kind, A: n, B: n, C: n, Data: []byte("x")})
			}
		}
		if w.Now() != 0 || len(w.Mail()) != 0 || w.Forged() || w.Clash() || w.Setup() != (Setup{}) {
			t.Errorf("%s: it tells something", name)
		}
		for _, n := range numbers() {
			if w.Side(n) != nil || w.Client(n) != nil || w.Router(n) != nil || w.Late(n) {
				t.Errorf("%s: it has %d", name, n)
			}
		}
		if w != nil && !reflect.DeepEqual(*w, World{}) {
			t.Errorf("%s: something was told to it", name)
		}
	}
}

// P24.2: answers are new memory; what is handed in is not kept, and not changed.
func TestMemory(t *testing.T) {
	w := plain(t, 1)
	data := make([]byte, 4, 9)
	copy(data, "data")
	w.Step(api.Step{Kind: 7, A: 1, Data: data})
	if string(data[:9]) != "data\x00\x00\x00\x00\x00" {
		t.Error("what was handed in is changed")
	}
	copy(data[:9], "xxxxxxxxx")
	steps(w, [3]int{5, 0, 0}, [3]int{9, 0, 7})
	want := view(w)
	l, other := w.Mail(), w.Mail()
	if string(l[0].Data) != "data" || len(l) != 4 {
		t.Fatalf("what was handed in is kept: %v", l)
	}
	for place := range l {
		b := l[place].Data[:cap(l[place].Data)]
		for at := range b {
			b[at] = 'x'
		}
	}
	for place := range l[:cap(l)] {
		l[:cap(l)][place] = api.Mail{To: 9}
	}
	if view(w) != want || string(other[0].Data) != "data" || string(other[1].Data) != "data" {
		t.Error("answers share memory with the world, or with each other")
	}
	l = w.Mail()
	b := l[0].Data[:cap(l[0].Data)]
	for at := range b {
		b[at] = 'x'
	}
	if string(l[1].Data) != "data" {
		t.Error("octets of one answer share memory")
	}
	steps(w, [3]int{4, 0, 0}, [3]int{4, 0, 0})
	if string(other[0].Data) != "data" || len(other) != 4 {
		t.Error("a step changed an answer")
	}
	x := octets(t, api.Tx{From: 5, Kind: 4, Inv: api.Inv{Root: "01234567", Router: 2, Id: "id"}, Var: api.Var{Amount: wide.Of(1)}})
	w.Step(api.Step{Kind: 6, Data: x})
	for at := range x {
		x[at] = 'x'
	}
	if got := w.Side(0).Pool(); len(got) != 1 || got[0].Inv.Root != "01234567" || got[0].Inv.Id != "id" {
		t.Errorf("what was submitted is kept: %v", got)
	}
}

// P1: no step panics, whatever it is.
func TestOdd(t *testing.T) {
	data := [][]byte{nil, {}, {0}, make([]byte, 9000), octets(t, api.Tx{From: 1, Kind: 5, Inv: api.Inv{Root: "01234567", Router: 2, Id: "id"}, Var: api.Var{Amount: wide.Of(1)}})}
	for _, corrupt := range []int{0, 2, 31} {
		w := made(t, Setup{Delay: 1, Corrupt: corrupt, Room: 300})
		for round := range 3 {
			for _, n := range numbers() {
				for kind := -1; kind < 15; kind++ {
					w.Step(api.Step{Kind: kind, A: n, B: n, C: n, Data: data[(kind+1+round)%len(data)]})
					w.Step(api.Step{Kind: kind, A: 1, B: n, C: n, Data: data[(kind+2+round)%len(data)]})
					w.Step(api.Step{Kind: kind, A: n, B: 1, Data: data[(kind+3+round)%len(data)]})
				}
				w.Late(n)
				w.Forged()
			}
		}
		view(w)
	}
}

// P3: worlds know nothing of each other; the same steps lead to the same, also side by side.
func TestSideBySide(t *testing.T) {
	answers := make(chan string)
	for range 4 {
		go func() {
			w, _ := New(Setup{Delay: 1, Corrupt: 8, Room: plenty})
			for _, n := range []int{100, 50} {
				steps(w, [3]int{9, 0, n}, [3]int{9, 1, n})
				rounds(w, 3)
			}
			answers <- view(w)
		}()
	}
	want := <-answers
	for range 3 {
		if <-answers != want {
			t.Error("answers differ when calls run side by side")
		}
	}
}

// What a caller may do with the world's own parts, the world's types are given to it as they are.
var (
	_ func(*World, int) *chain.Chain   = (*World).Side
	_ func(*World, int) *client.Client = (*World).Client
	_ func(*World, int) *router.Router = (*World).Router
)
