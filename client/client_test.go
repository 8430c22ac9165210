package client

import (
	"fmt"
	"math"
	"reflect"
	"slices"
	"strings"
	"testing"

	"narrows/api"
	"narrows/bid"
	"narrows/chain"
	"narrows/deal"
	"narrows/escrow"
	"narrows/mail"
	"narrows/mss"
	"narrows/wide"
)

// rootsOf and signedOf are made once: they take long.
var (
	rootsOf  = map[string]string{}
	signedOf = map[string]api.Bid{}
)

// rootOf is a key's root.
func rootOf(seed string) string {
	if rootsOf[seed] == "" {
		rootsOf[seed] = mss.Root(seed)
	}
	return rootsOf[seed]
}

// both are the roots of routers 2 and 3.
func both() []string {
	return []string{rootOf("router\x02"), rootOf("router\x03")}
}

// by is the bid, signed with that leaf of that router.
func by(router int, leaf int, b api.Bid) api.Bid {
	name := fmt.Sprintf("%d %d %#v", router, leaf, b)
	if s, ok := signedOf[name]; ok {
		return s
	}
	s, _, err := bid.Sign(api.Key{Seed: bid.Seed(router), Next: leaf}, b)
	if err != api.OK {
		panic(fmt.Sprintf("bid.Sign(%#v): %d", b, err))
	}
	signedOf[name] = s
	return s
}

// offer is a router's own bid of n.
func offer(router int, a api.Ask, n uint64, until int) api.Bid {
	return by(router, int(n%8), api.Bid{Router: router, Ask: a, Amount: wide.Of(n), Until: until})
}

// ask is what a user wants: 100, by that name.
func ask(user int, id string) api.Ask {
	return api.Ask{User: user, Send: 0, Recv: 1, To: 5, Amount: wide.Of(100), Id: id}
}

// put is a message's octets.
func put(t *testing.T, m api.Message) []byte {
	t.Helper()
	b, err := mail.Put(m)
	if err != api.OK {
		t.Fatalf("mail.Put(%#v): %d", m, err)
	}
	return b
}

// numbers are numbers of any size.
func numbers() []int {
	return []int{math.MinInt, math.MinInt + 1, -1 << 40, -257, -5, -1, 0, 1, 2, 3, 4, 5, 9, 255, 256, 1000, 1 << 16, 1 << 32, 1<<40 - 1, 1 << 40, 1<<40 + 1, math.MaxInt}
}

// town is a user, and both sides.
type town struct {
	c *Client
	s *chain.Chain
	r *chain.Chain
}

// begin is a user and two sides at time 1000, on the receiving one of which routers have 900 of each asset in their vaults.
func begin(t *testing.T, user int, d int, room int) *town {
	t.Helper()
	c, err := New(user, both(), d, room)
	if err != api.OK || c == nil {
		t.Fatalf("New(%d): %d", user, err)
	}
	w := &town{c: c, s: chain.New(0, 1000), r: chain.New(1, 1000)}
	for router := 2; router <= 3; router++ {
		for asset := range 2 {
			w.put(1, api.Tx{From: router, Kind: 2, Asset: asset, Amount: wide.Of(900), Inv: api.Inv{Router: router}})
		}
	}
	return w
}

// side is a side by its number.
func (w *town) side(n int) *chain.Chain {
	return []*chain.Chain{w.s, w.r}[n]
}

// put includes a transaction of another one at once, and is what comes of it.
func (w *town) put(side int, t api.Tx) api.Errno {
	c := w.side(side)
	t.Nonce = c.Next(t.From)
	if !c.Submit(t) {
		return api.ErrKind
	}
	include(c)
	for _, e := range slices.Backward(c.Events(0)) {
		if e.Tx == t {
			return e.Code
		}
	}
	return api.ErrNone
}

// include includes all that waits and is taken.
func include(c *chain.Chain) {
	for place := 0; place < len(c.Pool()); {
		if c.Include(place) {
			place = 0
		} else {
			place++
		}
	}
}

// all is all that goes out in a look.
type all struct {
	messages []api.Message
	sends    []api.Send
}

// looks lets the user look.
func (w *town) looks() all {
	m, l := w.c.Look(w.s, w.r)
	return all{m, l}
}

// sends tells it, if a look answers other than that.
func (w *town) sends(t *testing.T, what string, want ...api.Send) {
	t.Helper()
	got := w.looks()
	if len(got.messages) > 0 || !slices.Equal(got.sends, want) {
		t.Fatalf("%s: Look() =\n%#v; want\n%#v", what, got, want)
	}
}

// submit submits what was sent, and includes it.
func (w *town) submit(t *testing.T, l []api.Send) {
	t.Helper()
	for _, x := range l {
		if !w.side(x.Side).Submit(x.Tx) {
			t.Fatalf("it may not be: %#v", x)
		}
	}
	include(w.s)
	include(w.r)
}

// bids lets the user ask, and hear that bid of 98 or so by router 3.
func (w *town) bids(t *testing.T, a api.Ask, n uint64) {
	t.Helper()
	now := w.s.Time()
	if m, err := w.c.Ask(a, now); err != api.OK || m != (api.Message{Kind: 1, Ask: a}) {
		t.Fatalf("Ask(%#v) = %#v, %d", a, m, err)
	}
	if !w.c.Hear(put(t, api.Message{Kind: 2, Bid: offer(3, a, n, min(now+20, 1<<40))}), now) {
		t.Fatalf("the bid of %d is not taken", n)
	}
}

// deals makes a deal of 100 for 98, and locks it on the sending side.
func (w *town) deals(t *testing.T, id string) Deal {
	t.Helper()
	w.bids(t, ask(w.c.user, id), 98)
	w.s.Rise(1)
	w.r.Rise(1)
	w.submit(t, w.looks().sends)
	l := w.c.Deals()
	d := l[len(l)-1]
	if d.Ask.Id != id || escrow.Status(w.s.State(), deal.Key(d.Inv)) != 1 {
		t.Fatalf("there is no deal: %#v", l)
	}
	return d
}

// mirrors prepares a deal on the receiving side.
func (w *town) mirrors(t *testing.T, d Deal, amount uint64, expiry int) api.Var {
	t.Helper()
	v := api.Var{Amount: wide.Of(amount), Expiry: expiry}
	if err := w.put(1, api.Tx{From: d.Inv.Router, Kind: 4, Inv: d.Inv, Var: v}); err != api.OK {
		t.Fatalf("it is not prepared: %d", err)
	}
	return v
}

// signature is what a user signs with a leaf.
func signature(user int, leaf int, act int, i api.Inv, fee uint64) string {
	sig, _, err := mss.Sign(api.Key{Seed: "user" + string(rune(user)), Next: leaf}, deal.Payload(act, deal.Key(i), wide.Of(fee)))
	if err != api.OK {
		panic("mss.Sign")
	}
	return sig
}

// fulfils is what user 0 sends to fulfil, with a fee of 1.
func fulfils(nonce int, leaf int, d Deal, far api.Var) api.Send {
	return api.Send{Side: 1, Tx: api.Tx{From: 0, Nonce: nonce, Kind: 5, Inv: d.Inv, Var: far, Fee: wide.Of(1), Sig: signature(0, leaf, 1, d.Inv, 1)}}
}

// cancels is what user 0 sends to cancel on the receiving side, with a fee of 1.
func cancels(nonce int, leaf int, d Deal, far api.Var) api.Send {
	return api.Send{Side: 1, Tx: api.Tx{From: 0, Nonce: nonce, Kind: 6, Inv: d.Inv, Var: far, Fee: wide.Of(1), Sig: signature(0, leaf, 2, d.Inv, 1)}}
}

// released is what goes to the relayer beside what fulfils.
func released(x api.Send) api.Message {
	return api.Message{Kind: 3, Inv: x.Tx.Inv, Var: x.Tx.Var, Fee: x.Tx.Fee, Sig: x.Tx.Sig}
}

// acts tells it, if a look is other than an act to fulfil: that transaction, and its release.
func (w *town) acts(t *testing.T, what string, want api.Send) {
	t.Helper()
	if got := w.looks(); !slices.Equal(got.sends, []api.Send{want}) || !slices.Equal(got.messages, []api.Message{released(want)}) {
		t.Fatalf("%s: Look() =\n%#v; want\n%#v and its release", what, got, want)
	}
}

// act is the act of the only deal.
func (w *town) act() int {
	return w.c.Deals()[0].Act
}

// restarts lets the user fall, so that nothing lasts that is not sure, and start again.
func (w *town) restarts(t *testing.T) {
	t.Helper()
	w.c.Fall(w.s, w.r, 0)
	if !w.c.Down() {
		t.Fatal("it is not down")
	}
	if err := w.c.Up(); err != api.OK || w.c.Down() {
		t.Fatalf("Up() = %d", err)
	}
}

// P20.1, the chapter's example: users are 0 and 1.
func TestNew(t *testing.T) {
	for _, n := range numbers() {
		want := api.OK
		if n != 0 && n != 1 {
			want = api.ErrRange
		}
		for _, roots := range [][]string{nil, {}, {""}, both(), {"a", "b", "c"}} {
			c, err := New(n, roots, n, n)
			if err != want || (c == nil) != (want != api.OK) {
				t.Errorf("New(%d, %q) = %v, %d, want %d", n, roots, c, err, want)
			}
			if want == api.OK && (c.Down() || len(c.Deals()) != 0 || len(c.Signed()) != 0 || c.Root() != mss.Root("user"+string(rune(n)))) {
				t.Errorf("New(%d): %#v", n, c)
			}
		}
	}
	for user := range 2 {
		for _, n := range numbers() {
			if c, err := New(user, both(), n, n); c == nil || err != api.OK || c.Down() {
				t.Errorf("New(%d, both, %d, %d): %d", user, n, n, err)
			}
		}
	}
	if both := rootOf("user\x00") == rootOf("user\x01"); both {
		t.Error("one root of both")
	}
}

// P20.1, Seed: the text "user", and the number in 1 octet.
func TestSeed(t *testing.T) {
	for n, want := range map[int]string{0: "user\x00", 1: "user\x01", 9: "user\x09", 255: "user\xff", 256: "user\x00", 258: "user\x02", -1: "user\xff", math.MinInt: "user\x00", math.MaxInt: "user\xff"} {
		if got := Seed(n); got != want {
			t.Errorf("Seed(%d) = %q, want %q", n, got, want)
		}
	}
}

// P20.1, Fee: 1 of what is above 1, else 0; whoever is asked.
func TestFee(t *testing.T) {
	top := uint64(math.MaxUint64)
	made, _ := New(1, nil, 1, 0)
	for _, c := range []*Client{nil, {}, made} {
		for _, none := range []api.Wide{{}, {1}} {
			if got := c.Fee(none); got != (api.Wide{}) {
				t.Errorf("Fee(%v) = %v", none, got)
			}
		}
		for _, some := range []api.Wide{{2}, {3}, {100}, {top}, {0, 1}, {1, 1}, {0, 0, 1}, {1, 0, 1}, {0, 0, 0, 1}, {1, 0, 0, 1}, {top, top, top, top}} {
			if got := c.Fee(some); got != (api.Wide{1}) {
				t.Errorf("Fee(%v) = %v", some, got)
			}
		}
	}
}

// P20.1, Ask: what is asked for is open in the room, up to 8; the message tells it.
func TestAsk(t *testing.T) {
	for user := range 2 {
		w := begin(t, user, 1, 900)
		for n := range 9 {
			a := ask(user, fmt.Sprint("id", n))
			m, err := w.c.Ask(a, n)
			if n < 8 && (err != api.OK || m != (api.Message{Kind: 1, Ask: a})) {
				t.Errorf("Ask(%#v) = %#v, %d", a, m, err)
			}
			if n == 8 && (err != api.ErrFull || m != (api.Message{})) {
				t.Errorf("the ninth: %#v, %d", m, err)
			}
		}
		if len(w.c.Deals()) != 0 || len(w.c.Signed()) != 0 {
			t.Error("an ask is no deal yet")
		}
	}
}

// P20.1, Ask, P4: which error goes ahead.
func TestAskErrors(t *testing.T) {
	w := begin(t, 0, 1, 900)
	asks := func(what string, a api.Ask, want api.Errno) {
		t.Helper()
		if m, err := w.c.Ask(a, w.s.Time()); err != want || m != (api.Message{}) {
			t.Errorf("%s: Ask = %#v, %d, want %d", what, m, err, want)
		}
	}
	w.deals(t, "a")
	long, empty, other := ask(0, strings.Repeat("i", 17)), ask(0, ""), ask(0, "a")
	other.Amount, other.To, other.Send = wide.Of(5), 2, 1
	asks("a deal of that ask", ask(0, "a"), api.ErrStatus)
	asks("a deal of that Id", other, api.ErrStatus)
	other.Amount = wide.Of(0)
	asks("a deal of that Id, and it may not be", other, api.ErrStatus)
	other.Id = "b"
	asks("it may not be", other, api.ErrRoute)
	asks("a long Id", long, api.ErrRoute)
	asks("no Id", empty, api.ErrRoute)
	for _, n := range numbers() {
		if n != 0 {
			asks("another user", ask(n, "b"), api.ErrRoute)
			asks("another user, and a deal of that Id", ask(n, "a"), api.ErrRoute)
		}
	}
	if _, err := w.c.Ask(ask(0, "open"), 1000); err != api.OK {
		t.Fatal(err)
	}
	asks("it is open", ask(0, "open"), api.ErrStatus)
	for n := range 6 {
		if _, err := w.c.Ask(ask(0, fmt.Sprint("more", n)), 1000); err != api.OK {
			t.Fatal(err)
		}
	}
	asks("8 are open", ask(0, "last"), api.ErrFull)
	asks("8 are open, and it may not be", empty, api.ErrRoute)
	asks("8 are open, and it is", ask(0, "open"), api.ErrStatus)
	asks("8 are open, and there is a deal", ask(0, "a"), api.ErrStatus)
	asks("8 are open, and another user", ask(1, "last"), api.ErrRoute)
	w.c.Fall(w.s, w.r, 0)
	for _, a := range []api.Ask{ask(0, "new"), ask(1, "new"), ask(0, "a"), ask(0, "open"), empty} {
		asks("down", a, api.ErrDown)
	}
	w.c.Up()
	asks("a deal from before the fall", ask(0, "a"), api.ErrStatus)
	for n := range 8 {
		if _, err := w.c.Ask(ask(0, fmt.Sprint("more", n)), 1000); err != api.OK {
			t.Errorf("behind a fall the room is empty: %d", err)
		}
	}
	asks("8 are open", ask(0, "last"), api.ErrFull)
}

// P20.1, Hear: a bid's message goes to the room, at the time that is told.
func TestHear(t *testing.T) {
	w := begin(t, 0, 1, 900)
	a := ask(0, "a")
	hears := func(what string, b []byte, now int, want bool) {
		t.Helper()
		before := slices.Clone(b)
		if got := w.c.Hear(b, now); got != want {
			t.Errorf("%s: Hear = %t", what, got)
		}
		if !slices.Equal(b, before) {
			t.Errorf("%s: what was handed in is another", what)
		}
	}
	second, third := put(t, api.Message{Kind: 2, Bid: offer(2, a, 97, 1010)}), put(t, api.Message{Kind: 2, Bid: offer(3, a, 98, 1010)})
	hears("it is not open", second, 1000, false)
	if _, err := w.c.Ask(a, 1000); err != api.OK {
		t.Fatal(err)
	}
	hears("nothing", nil, 1000, false)
	hears("too few octets", second[:len(second)-1], 1000, false)
	hears("too many octets", append(slices.Clone(second), 0), 1000, false)
	hears("no octets of it", second[1:], 1000, false)
	hears("an ask", put(t, api.Message{Kind: 1, Ask: a}), 1000, false)
	hears("a release", put(t, api.Message{Kind: 3, Inv: api.Inv{Root: rootOf("router\x02"), Router: 2, Id: "a"}, Var: api.Var{Amount: wide.Of(9)}}), 1000, false)
	hears("not signed", put(t, api.Message{Kind: 2, Bid: by(3, 0, api.Bid{Router: 2, Ask: a, Amount: wide.Of(99), Until: 1010})}), 1000, false)
	hears("for another ask", put(t, api.Message{Kind: 2, Bid: offer(2, ask(0, "b"), 97, 1010)}), 1000, false)
	hears("past", second, 1011, false)
	hears("just not past", second, 1010, true)
	hears("again", second, 1000, false)
	hears("again, better", put(t, api.Message{Kind: 2, Bid: offer(2, a, 99, 1010)}), 1000, false)
	hears("the other router's", third, 1000, true)
	w.c.Fall(w.s, w.r, 0)
	hears("down", second, 1000, false)
	w.c.Up()
	hears("the room is empty", second, 1000, false)
	w.c.Ask(a, 1000)
	hears("it is open again", second, 1000, true)
	hears("much", make([]byte, 1<<14), 1000, false)
}

// P20.1, Look: of the best bid a deal is made: all its fields; and it is sent.
func TestTrade(t *testing.T) {
	for d, long := range map[int]int{-7: 28, 0: 28, 1: 28, 2: 44, 3: 60, 4: 76, 5: 76, math.MaxInt: 76} {
		for user := range 2 {
			w := begin(t, user, d, 1<<16)
			a := api.Ask{User: user, Send: 1, Recv: 0, To: 7, Amount: wide.Of(100), Id: "sixteen octets.."}
			if user == 1 {
				a.Send, a.Recv, a.To = 0, 1, 3
			}
			w.bids(t, a, 98)
			if !w.c.Hear(put(t, api.Message{Kind: 2, Bid: offer(2, a, 99, 1010)}), 1000) {
				t.Fatal("it is not heard")
			}
			w.sends(t, "the window lasts yet")
			w.s.Rise(4)
			want := Deal{Ask: a, Offer: wide.Of(99), Var: api.Var{Amount: wide.Of(100), Expiry: 1004 + long}}
			want.Inv = api.Inv{User: user, Root: rootOf("user" + string(rune(user))), Router: 2, Send: a.Send, Recv: a.Recv, To: a.To, Id: a.Id}
			w.sends(t, "it is won", api.Send{Side: 0, Tx: api.Tx{From: user, Kind: 4, Inv: want.Inv, Var: want.Var}})
			if got := w.c.Deals(); !slices.Equal(got, []Deal{want}) {
				t.Errorf("Deals() =\n%#v; want\n%#v", got, want)
			}
			if len(w.c.Signed()) != 0 {
				t.Error("nothing is signed yet")
			}
			w.restarts(t)
			if got := w.c.Deals(); !slices.Equal(got, []Deal{want}) {
				t.Errorf("behind a fall: Deals() =\n%#v; want\n%#v", got, want)
			}
		}
	}
}

// P20.1, Look: the bid is the best one at the sending side's time, whatever the receiving side's is.
func TestTradeTimes(t *testing.T) {
	a := ask(0, "a")
	for rise, want := range map[int]uint64{0: 0, 1: 99, 10: 99, 11: 98, 20: 98, 21: 0} {
		for _, ahead := range []int{0, 1, 15, 500} {
			w := begin(t, 0, 2, 900)
			w.bids(t, a, 98)
			w.c.Hear(put(t, api.Message{Kind: 2, Bid: offer(2, a, 99, 1010)}), 1000)
			w.s.Rise(rise)
			w.r.Rise(ahead)
			w.looks()
			l := w.c.Deals()
			if want == 0 && len(l) != 0 || want > 0 && (len(l) != 1 || l[0].Offer != wide.Of(want) || l[0].Var.Expiry != 1044+rise) {
				t.Errorf("%d behind, %d: Deals() = %#v, want one of %d", rise, ahead, l, want)
			}
		}
	}
}

// P20.1, Look: deals are made in the order in which asks were opened, each once, when there is a bid; what has none waits.
func TestTradesInOrder(t *testing.T) {
	w := begin(t, 0, 1, 900)
	for _, id := range []string{"c", "a", "b"} {
		if _, err := w.c.Ask(ask(0, id), 1000); err != api.OK {
			t.Fatal(err)
		}
	}
	ids := func(want string) {
		t.Helper()
		got := ""
		for _, d := range w.c.Deals() {
			got += d.Ask.Id
		}
		if got != want {
			t.Errorf("deals %q, want %q", got, want)
		}
	}
	w.s.Rise(1)
	w.sends(t, "without bids")
	for _, id := range []string{"b", "c"} {
		w.c.Hear(put(t, api.Message{Kind: 2, Bid: offer(2, ask(0, id), 9, 1020)}), 1001)
	}
	if got := w.looks(); len(got.sends) != 2 || got.sends[0].Tx.Inv.Id != "c" || got.sends[1].Tx.Inv.Id != "b" {
		t.Errorf("%#v", got)
	}
	ids("cb")
	w.c.Hear(put(t, api.Message{Kind: 2, Bid: offer(2, ask(0, "a"), 9, 1020)}), 1001)
	w.c.Hear(put(t, api.Message{Kind: 2, Bid: offer(3, ask(0, "b"), 19, 1020)}), 1001)
	if got := w.looks(); len(got.sends) != 3 || got.sends[2].Tx.Inv.Id != "a" {
		t.Errorf("%#v", got)
	}
	ids("cba")
	for range 3 {
		w.looks()
		ids("cba")
	}
	if w.c.Deals()[1].Offer != wide.Of(9) {
		t.Error("a better bid that comes later changed a deal")
	}
}

// P20.1, Look: of two asks of one Id one has a deal: so a transfer never has two.
func TestOneDealAnId(t *testing.T) {
	w := begin(t, 0, 1, 900)
	first, second := ask(0, "a"), ask(0, "a")
	second.Amount = wide.Of(90)
	w.bids(t, first, 50)
	w.bids(t, second, 60)
	w.s.Rise(1)
	for range 3 {
		w.looks()
		if l := w.c.Deals(); len(l) != 1 || l[0].Ask != first || l[0].Offer != wide.Of(50) {
			t.Fatalf("Deals() = %#v", l)
		}
	}
}

// P20.1, Look: while nothing of it is there, and it does not wait, a deal is sent, twice from each start on.
func TestSentTwice(t *testing.T) {
	w := begin(t, 0, 1, 900)
	w.bids(t, ask(0, "a"), 98)
	w.s.Rise(1)
	first := w.looks().sends
	if len(first) != 1 {
		t.Fatalf("%#v", first)
	}
	w.sends(t, "once more", first...)
	for range 3 {
		w.sends(t, "not a third time")
	}
	w.restarts(t)
	w.sends(t, "first behind a start", first...)
	if !w.s.Submit(first[0].Tx) {
		t.Fatal("it may not be")
	}
	for range 3 {
		w.sends(t, "it waits")
	}
	w.restarts(t)
	w.sends(t, "it waits from before the start")
	include(w.s)
	w.sends(t, "it is there")
}

// P20.1, Look: what reverted is sent once more, however long it waited; then no more till the next start.
func TestSentAgain(t *testing.T) {
	w := begin(t, 0, 1, 900)
	w.put(0, api.Tx{From: 0, Kind: 1, Amount: wide.Of(950), Inv: api.Inv{To: 7}})
	w.bids(t, ask(0, "a"), 98)
	w.s.Rise(1)
	first := w.looks().sends
	w.s.Submit(first[0].Tx)
	for range 3 {
		w.sends(t, "it waits")
	}
	include(w.s)
	first[0].Tx.Nonce++
	w.sends(t, "it reverted", first...)
	w.submit(t, first)
	for range 3 {
		w.sends(t, "it reverted twice")
	}
	w.put(0, api.Tx{From: 7, Kind: 1, Amount: wide.Of(100), Inv: api.Inv{To: 0}})
	w.sends(t, "it was sent twice, though there are coins now")
	w.restarts(t)
	first[0].Tx.Nonce++
	w.sends(t, "started again", first...)
	w.submit(t, first)
	w.sends(t, "it is there")
	if got := escrow.Status(w.s.State(), deal.Key(w.c.Deals()[0].Inv)); got != 1 {
		t.Errorf("it is %d", got)
	}
}

// P20.1, Look: what waits is another's, of another kind, or of another transfer: it is sent nevertheless.
func TestOthersWait(t *testing.T) {
	for name, set := range map[string]func(*api.Tx){
		"sender":   func(x *api.Tx) { x.From = 1 },
		"kind":     func(x *api.Tx) { x.Kind, x.Nonce = 6, 5 },
		"transfer": func(x *api.Tx) { x.Inv.Id, x.Nonce = "b", 5 },
	} {
		w := begin(t, 0, 1, 900)
		w.bids(t, ask(0, "a"), 98)
		w.s.Rise(1)
		first := w.looks().sends
		other := first[0].Tx
		set(&other)
		if !w.s.Submit(other) {
			t.Fatalf("%s: it may not be", name)
		}
		w.sends(t, name, first...)
		w.sends(t, name)
	}
}

// P20.1, Look: a deal is sent up to just below its Expiry.
func TestSentAheadOfExpiry(t *testing.T) {
	for rise, want := range map[int]int{0: 1, 26: 1, 27: 1, 28: 0, 29: 0, 500: 0} {
		w := begin(t, 0, 1, 900)
		w.bids(t, ask(0, "a"), 98)
		w.s.Rise(1)
		w.looks()
		w.s.Rise(rise)
		if got := w.looks(); len(got.sends) != want || len(got.messages) != 0 {
			t.Errorf("%d behind: %#v", rise, got)
		}
	}
}

// P20.1, Look: what is over on the sending side is not sent again, though its Expiry is far.
func TestOverIsOver(t *testing.T) {
	w := begin(t, 0, 1, 900)
	d := w.deals(t, "a")
	if err := w.put(0, api.Tx{From: 3, Kind: 6, Inv: d.Inv, Var: d.Var}); err != api.OK {
		t.Fatal(err)
	}
	for range 3 {
		w.sends(t, "cancelled early")
	}
	w.restarts(t)
	w.sends(t, "cancelled early, and started again")
	w.s.Rise(100)
	w.sends(t, "cancelled early, and past")
}

// P20.1: a fair trade: it is fulfilled on both sides, and the receiver has the offer without the fee.
func TestWholeTrade(t *testing.T) {
	w := begin(t, 0, 1, 900)
	d := w.deals(t, "a")
	w.sends(t, "nothing is there yet")
	far := w.mirrors(t, d, 98, 1020)
	want := fulfils(0, 0, d, far)
	w.acts(t, "it is prepared on both sides", want)
	d.Act, d.Leaf = 1, 0
	if got := w.c.Deals(); !slices.Equal(got, []Deal{d}) {
		t.Errorf("Deals() = %#v", got)
	}
	if got := w.c.Signed(); !slices.Equal(got, []string{string(deal.Payload(1, deal.Key(d.Inv), wide.Of(1)))}) {
		t.Errorf("Signed() = %q", got)
	}
	w.submit(t, []api.Send{want})
	w.sends(t, "it is fulfilled there")
	if got := w.r.State().Purse.Of(5, 1); got != wide.Of(1097) {
		t.Errorf("the receiver has %v", got)
	}
	if err := w.put(0, api.Tx{From: 3, Kind: 5, Inv: d.Inv, Var: d.Var, Fee: want.Tx.Fee, Sig: want.Tx.Sig}); err != api.OK {
		t.Errorf("what it signed fulfils on the sending side, too: %d", err)
	}
	for range 3 {
		w.sends(t, "it is over")
	}
	w.restarts(t)
	w.sends(t, "it is over, and started again")
	w.s.Rise(100)
	w.r.Rise(100)
	w.sends(t, "it is over, and past")
	if got := w.c.Deals(); !slices.Equal(got, []Deal{d}) {
		t.Errorf("Deals() = %#v", got)
	}
}

// P20.1: an offer of 1 leaves no fee; the release goes nevertheless.
func TestTradeWithoutFee(t *testing.T) {
	for n, fee := range map[uint64]uint64{1: 0, 2: 1, 3: 1} {
		w := begin(t, 1, 1, 900)
		w.bids(t, ask(1, "a"), n)
		w.s.Rise(1)
		w.submit(t, w.looks().sends)
		d := w.c.Deals()[0]
		far := w.mirrors(t, d, n, 1020)
		want := api.Send{Side: 1, Tx: api.Tx{From: 1, Kind: 5, Inv: d.Inv, Var: far, Fee: wide.Of(fee), Sig: signature(1, 0, 1, d.Inv, fee)}}
		w.acts(t, fmt.Sprint("an offer of ", n), want)
		w.submit(t, []api.Send{want})
		if got := w.r.State().Purse.Of(5, 1); got != wide.Of(1000+n-fee) {
			t.Errorf("the receiver has %v", got)
		}
	}
}

// P20.1, Look: it acts only for no less than was offered.
func TestActAmount(t *testing.T) {
	for amount, want := range map[uint64]int{1: 0, 97: 0, 98: 1, 99: 1, 400: 1} {
		w := begin(t, 0, 1, 900)
		d := w.deals(t, "a")
		far := w.mirrors(t, d, amount, 1020)
		if want == 0 {
			w.sends(t, fmt.Sprint("an amount of ", amount))
		} else {
			w.acts(t, fmt.Sprint("an amount of ", amount), fulfils(0, 0, d, far))
		}
		if got := w.act(); got != want {
			t.Errorf("an amount of %d: act %d", amount, got)
		}
	}
}

// P20.1, Look: amounts are held against each other by all words.
func TestActWideAmount(t *testing.T) {
	for word := range 4 {
		w := begin(t, 0, 1, 900)
		a := ask(0, "a")
		a.Amount = api.Wide{0, 0, 0, 5}
		b := api.Bid{Router: 3, Ask: a, Until: 1020}
		b.Amount[word] = 1
		if word == 0 {
			b.Amount[0] = 401
		}
		w.c.Ask(a, 1000)
		if !w.c.Hear(put(t, api.Message{Kind: 2, Bid: by(3, 0, b)}), 1000) {
			t.Fatal("it is not heard")
		}
		w.s.Rise(1)
		w.looks()
		i := w.c.Deals()[0].Inv
		// Nobody has that much: what is prepared on the sending side is another side's data of that transfer.
		if err := w.put(0, api.Tx{From: 0, Kind: 4, Inv: i, Var: api.Var{Amount: wide.Of(1), Expiry: 1040}}); err != api.OK {
			t.Fatal(err)
		}
		w.mirrors(t, w.c.Deals()[0], 400, 1030)
		w.sends(t, "it is too little")
		if w.act() != 0 {
			t.Errorf("word %d: it acted", word)
		}
	}
}

// P20.1, Look: it acts only while it is time to release on the receiving side, whatever the sending side's time is.
func TestActTime(t *testing.T) {
	for d := 1; d <= 4; d++ {
		for left := 1; left <= 8; left++ {
			w := begin(t, 0, d, 900)
			w.r.Rise(500)
			one := w.deals(t, "a")
			far := w.mirrors(t, one, 98, w.r.Time()+left)
			if left > d+1 {
				w.acts(t, "it is time", fulfils(0, 0, one, far))
			} else {
				w.sends(t, "it is late")
			}
			if got := w.act() == 1; got != (left > d+1) {
				t.Errorf("delay %d, %d left: act %t", d, left, got)
			}
		}
	}
}

// P20.1, Look: it acts only with 4 coins on the receiving side.
func TestActCoins(t *testing.T) {
	for coins, want := range map[uint64]int{0: 0, 1: 0, 3: 0, 4: 1, 5: 1, 1000: 1} {
		w := begin(t, 0, 1, 900)
		d := w.deals(t, "a")
		if coins < 1000 {
			w.put(1, api.Tx{From: 0, Kind: 1, Amount: wide.Of(999 - coins), Inv: api.Inv{To: 7}})
		}
		if got := w.r.State().Purse.Of(0, 0); got != wide.Of(coins) {
			t.Fatalf("%v", got)
		}
		// Neither what it has of the other asset counts, nor what it has on the sending side.
		far := w.mirrors(t, d, 98, 1020)
		if want == 1 {
			nonce := w.r.Next(0)
			w.acts(t, fmt.Sprint(coins, " coins"), fulfils(nonce, 0, d, far))
		} else {
			w.sends(t, fmt.Sprint(coins, " coins"))
		}
		if got := w.act(); got != want {
			t.Errorf("%d coins: act %d", coins, got)
		}
	}
}

// P20.1, Look: coins are counted by all words.
func TestActManyCoins(t *testing.T) {
	w := begin(t, 0, 1, 900)
	d := w.deals(t, "a")
	for from := 1; from < 8; from++ {
		w.put(1, api.Tx{From: from, Kind: 1, Amount: wide.Of(500), Inv: api.Inv{To: 0}})
	}
	w.acts(t, "4500 coins", fulfils(0, 0, d, w.mirrors(t, d, 98, 1020)))
}

// P20.1, Look: it acts only while it is prepared on both sides.
func TestActNeedsBothSides(t *testing.T) {
	w := begin(t, 0, 1, 900)
	w.bids(t, ask(0, "a"), 98)
	w.s.Rise(1)
	sent := w.looks().sends
	d := w.c.Deals()[0]
	far := w.mirrors(t, d, 98, 1020)
	w.sends(t, "nothing is there on the sending side", sent...)
	w.submit(t, sent)
	w.acts(t, "it is prepared on both sides", fulfils(0, 0, d, far))

	w = begin(t, 0, 1, 900)
	d = w.deals(t, "a")
	far = w.mirrors(t, d, 98, 1020)
	w.put(0, api.Tx{From: 3, Kind: 6, Inv: d.Inv, Var: d.Var})
	w.sends(t, "it is cancelled on the sending side")

	w = begin(t, 0, 1, 900)
	d = w.deals(t, "a")
	far = w.mirrors(t, d, 98, 1006)
	w.r.Rise(5)
	if err := w.put(1, api.Tx{From: 3, Kind: 6, Inv: d.Inv, Var: far}); err != api.OK {
		t.Fatal(err)
	}
	w.sends(t, "it is cancelled on the receiving side")
	if w.act() != 0 || len(w.c.Signed()) != 0 {
		t.Error("it acted")
	}
}

// P20.1, Look: a transaction to prepare that reverts tells nothing; what prepared it first counts.
func TestActByTheFirst(t *testing.T) {
	w := begin(t, 0, 1, 900)
	d := w.deals(t, "a")
	if err := w.put(1, api.Tx{From: 2, Kind: 4, Inv: d.Inv, Var: api.Var{Amount: wide.Of(400), Expiry: 1030}}); err != api.ErrSender {
		t.Fatal(err)
	}
	far := w.mirrors(t, d, 98, 1020)
	if err := w.put(1, api.Tx{From: 3, Kind: 4, Inv: d.Inv, Var: api.Var{Amount: wide.Of(99), Expiry: 1030}}); err != api.ErrStatus {
		t.Fatal(err)
	}
	w.acts(t, "the first one", fulfils(0, 0, d, far))
}

// P20.1, Look: also the first event of all counts; here one ledger stands for both sides.
func TestActByTheFirstEvent(t *testing.T) {
	w := begin(t, 0, 1, 900)
	w.r = w.s
	w.bids(t, ask(0, "a"), 98)
	w.s.Rise(1)
	for _, x := range w.looks().sends {
		w.s.Submit(x.Tx)
	}
	include(w.s)
	if l := w.s.Events(0); len(l) != 1 || l[0].Tx.Kind != 4 || l[0].Code != api.OK {
		t.Fatalf("%#v", l)
	}
	d := w.c.Deals()[0]
	w.acts(t, "one ledger", fulfils(1, 0, d, d.Var))
}

// P20.1, Look: what fulfils is sent again, unless it waits, up to the Expiry there; the release goes once.
func TestFulfilSent(t *testing.T) {
	w := begin(t, 0, 2, 900)
	d := w.deals(t, "a")
	far := w.mirrors(t, d, 98, 1020)
	want := fulfils(0, 0, d, far)
	w.acts(t, "it acts", want)
	w.sends(t, "it does not wait", want)
	if !w.r.Submit(want.Tx) {
		t.Fatal("it may not be")
	}
	w.sends(t, "it waits")

	w = begin(t, 0, 2, 900)
	d = w.deals(t, "a")
	w.mirrors(t, d, 98, 1020)
	w.acts(t, "it acts", want)
	for w.r.Rise(15); w.r.Time() < 1020; w.r.Rise(1) {
		w.sends(t, "it is late for a release, but was sent before", want)
	}
	for range 3 {
		w.sends(t, "its Expiry is there")
		w.r.Rise(1)
	}
	if w.act() != 1 {
		t.Error("it is not the act of the deal any more")
	}
}

// P20.1, Look: from a start on, what the user acted for goes out again, with its release, if it is time for a release.
func TestFulfilBehindAStart(t *testing.T) {
	for left, first := range map[int]bool{19: true, 5: true, 4: true, 3: false, 1: false, 0: false, -3: false} {
		w := begin(t, 0, 2, 900)
		d := w.deals(t, "a")
		far := w.mirrors(t, d, 98, 1020)
		want := fulfils(0, 0, d, far)
		w.acts(t, "it acts", want)
		w.restarts(t)
		w.r.Rise(1020 - left - w.r.Time())
		if !first {
			for range 3 {
				w.sends(t, fmt.Sprint("it is late: ", left))
			}
			continue
		}
		w.acts(t, fmt.Sprint("it is time: ", left), want)
		w.sends(t, "a second time", want)
		w.r.Rise(left - 1)
		w.sends(t, "it was sent", want)
		w.restarts(t)
		w.sends(t, "started again, it is late")
	}
}

// P20.1, Look: where such a one waits from before the start, the release goes alone; then it counts as sent.
func TestReleaseAlone(t *testing.T) {
	w := begin(t, 0, 2, 900)
	d := w.deals(t, "a")
	far := w.mirrors(t, d, 98, 1020)
	want := fulfils(0, 0, d, far)
	w.acts(t, "it acts", want)
	wrong := want.Tx
	wrong.Sig = "none"
	if !w.r.Submit(wrong) {
		t.Fatal("it may not be")
	}
	w.restarts(t)
	if got := w.looks(); len(got.sends) != 0 || !slices.Equal(got.messages, []api.Message{released(want)}) {
		t.Fatalf("Look() = %#v", got)
	}
	w.sends(t, "it waits, and the release is gone")
	w.r.Rise(18)
	include(w.r)
	want.Tx.Nonce = 1
	w.sends(t, "it reverted", want)
}

// P20.1, Look: with the act to fulfil what is prepared on the receiving side is brought, though the sending side is over.
func TestFulfilThoughTheOtherSideIsOver(t *testing.T) {
	for name, end := range map[string]func(w *town, d Deal, sig string) api.Errno{
		"fulfilled": func(w *town, d Deal, sig string) api.Errno {
			return w.put(0, api.Tx{From: 3, Kind: 5, Inv: d.Inv, Var: d.Var, Fee: wide.Of(1), Sig: sig})
		},
		"cancelled": func(w *town, d Deal, sig string) api.Errno {
			return w.put(0, api.Tx{From: 3, Kind: 6, Inv: d.Inv, Var: d.Var})
		},
	} {
		w := begin(t, 0, 1, 900)
		d := w.deals(t, "a")
		want := fulfils(0, 0, d, w.mirrors(t, d, 98, 1020))
		w.acts(t, name, want)
		if err := end(w, d, want.Tx.Sig); err != api.OK {
			t.Fatalf("%s: %d", name, err)
		}
		w.sends(t, name, want)
		w.restarts(t)
		w.acts(t, name+", started again", want)
	}
}

// P20.1, Look: what is past on the sending side is taken back, unless that waits.
func TestTakenBack(t *testing.T) {
	w := begin(t, 0, 1, 900)
	d := w.deals(t, "a")
	w.s.Rise(d.Var.Expiry - w.s.Time() - 1)
	w.sends(t, "just not past")
	w.s.Rise(1)
	want := api.Send{Side: 0, Tx: api.Tx{From: 0, Nonce: 1, Kind: 6, Inv: d.Inv, Var: d.Var}}
	for range 4 {
		w.sends(t, "past", want)
	}
	w.s.Submit(want.Tx)
	w.sends(t, "past, and it waits")
	include(w.s)
	w.sends(t, "it is cancelled")
	if got := escrow.Status(w.s.State(), deal.Key(d.Inv)); got != 3 {
		t.Errorf("it is %d", got)
	}
	if w.act() != 0 || len(w.c.Signed()) != 0 {
		t.Error("to take back is no act")
	}
}

// P20.1, Look: with an act what is past is taken back likewise; both go out in one look.
func TestTakenBackWithAnAct(t *testing.T) {
	w := begin(t, 0, 1, 900)
	d := w.deals(t, "a")
	far := w.mirrors(t, d, 98, 1020)
	want := fulfils(0, 0, d, far)
	w.s.Rise(500)
	back := api.Send{Side: 0, Tx: api.Tx{From: 0, Nonce: 1, Kind: 6, Inv: d.Inv, Var: d.Var}}
	got := w.looks()
	if !slices.Equal(got.sends, []api.Send{want, back}) || !slices.Equal(got.messages, []api.Message{released(want)}) {
		t.Errorf("Look() = %#v", got)
	}
}

// P20.1, Recall: it acts to cancel, and that is sure; then what cancels is sent to the receiving side.
func TestRecall(t *testing.T) {
	w := begin(t, 0, 2, 900)
	d := w.deals(t, "a")
	far := w.mirrors(t, d, 98, 1020)
	if err := w.c.Recall("a"); err != api.OK || w.c.Down() {
		t.Fatalf("Recall = %d", err)
	}
	d.Act, d.Leaf = 2, 0
	w.restarts(t)
	if got := w.c.Deals(); !slices.Equal(got, []Deal{d}) {
		t.Fatalf("it is not sure: %#v", got)
	}
	if got := w.c.Signed(); !slices.Equal(got, []string{string(deal.Payload(2, deal.Key(d.Inv), wide.Of(1)))}) {
		t.Errorf("Signed() = %q", got)
	}
	want := cancels(0, 0, d, far)
	w.sends(t, "it is recalled", want)
	w.sends(t, "it does not wait", want)
	w.r.Submit(want.Tx)
	w.sends(t, "it waits")
	include(w.r)
	w.sends(t, "it is cancelled")
	if got := escrow.Status(w.r.State(), deal.Key(d.Inv)); got != 3 {
		t.Errorf("it is %d", got)
	}
	w.s.Rise(500)
	w.sends(t, "past", api.Send{Side: 0, Tx: api.Tx{From: 0, Nonce: 1, Kind: 6, Inv: d.Inv, Var: d.Var}})
}

// P20.1, Look: what cancels is first sent while it is time for a release, then up to the Expiry there; no release goes.
func TestCancelTimes(t *testing.T) {
	for left, first := range map[int]bool{19: true, 4: true, 3: false, 1: false, 0: false, -3: false} {
		w := begin(t, 0, 2, 900)
		d := w.deals(t, "a")
		far := w.mirrors(t, d, 98, 1020)
		w.c.Recall("a")
		want := cancels(0, 0, d, far)
		w.r.Rise(1020 - left - w.r.Time())
		if !first {
			w.sends(t, fmt.Sprint("it is late: ", left))
			continue
		}
		w.sends(t, fmt.Sprint("it is time: ", left), want)
		w.r.Rise(left - 1)
		w.sends(t, "it was sent", want)
		w.restarts(t)
		w.sends(t, "started again, it is late")
		w.r.Rise(1)
		w.sends(t, "its Expiry is there")
	}
}

// P20.1, Look: where one that cancels waits from before the start, nothing is sent: then it must be time for a release yet.
func TestCancelWaits(t *testing.T) {
	w := begin(t, 0, 2, 900)
	d := w.deals(t, "a")
	far := w.mirrors(t, d, 98, 1020)
	w.c.Recall("a")
	want := cancels(0, 0, d, far)
	wrong := want.Tx
	wrong.Sig = "none"
	w.r.Submit(wrong)
	w.sends(t, "it waits")
	w.r.Rise(18)
	include(w.r)
	w.sends(t, "it reverted, and it is late")
}

// P20.1, Recall: also what is not prepared anywhere, or was not yet on the receiving side, may be recalled; it is not fulfilled then.
func TestRecallEarly(t *testing.T) {
	w := begin(t, 0, 1, 900)
	w.bids(t, ask(0, "a"), 98)
	w.s.Rise(1)
	sent := w.looks().sends
	if err := w.c.Recall("a"); err != api.OK {
		t.Fatal(err)
	}
	w.sends(t, "it is sent nevertheless", sent...)
	w.submit(t, sent)
	d := w.c.Deals()[0]
	w.sends(t, "nothing is there on the receiving side")
	far := w.mirrors(t, d, 98, 1020)
	w.sends(t, "it is prepared on both sides", cancels(0, 0, d, far))
	if w.act() != 2 || len(w.c.Signed()) != 1 {
		t.Error("it acted otherwise")
	}
}

// P20.1, Recall, P4: which error goes ahead.
func TestRecallErrors(t *testing.T) {
	w := begin(t, 0, 1, 900)
	recalls := func(what string, id string, want api.Errno) {
		t.Helper()
		if err := w.c.Recall(id); err != want {
			t.Errorf("%s: Recall = %d, want %d", what, err, want)
		}
	}
	recalls("there is none", "a", api.ErrNone)
	if _, err := w.c.Ask(ask(0, "b"), 1000); err != api.OK {
		t.Fatal(err)
	}
	recalls("an ask is no deal", "b", api.ErrNone)
	w.deals(t, "a")
	for _, id := range []string{"", "b", "A", "a\x00", "aa", strings.Repeat("a", 5000)} {
		recalls("there is no deal of that Id", id, api.ErrNone)
	}
	recalls("there is one", "a", api.OK)
	recalls("it is recalled", "a", api.ErrStatus)
	d := w.deals(t, "c")
	w.acts(t, "it acts", fulfils(0, 1, d, w.mirrors(t, d, 98, 1020)))
	recalls("it acted to fulfil", "c", api.ErrStatus)
	w.c.Fall(w.s, w.r, 0)
	for _, id := range []string{"", "a", "b", "c"} {
		recalls("it is down", id, api.ErrDown)
	}
}

// many makes many deals, and locks them.
func (w *town) many(t *testing.T, n int) []Deal {
	t.Helper()
	for place := range n {
		w.deals(t, fmt.Sprintf("%c", 'a'+place))
	}
	return w.c.Deals()
}

// P20.1, P20.2: 8 acts take up all leaves, in the order in which it acts; a ninth is not done.
func TestLeaves(t *testing.T) {
	w := begin(t, 0, 4, 1<<16)
	w.put(0, api.Tx{From: 7, Kind: 1, Amount: wide.Of(900), Inv: api.Inv{To: 0}})
	l := w.many(t, 8)
	for place, id := range []string{"c", "h", "a"} {
		if err := w.c.Recall(id); err != api.OK {
			t.Fatal(err)
		}
		if got := len(w.c.Signed()); got != place+1 {
			t.Errorf("%d are signed", got)
		}
	}
	for _, place := range []int{1, 3, 4, 5, 6} {
		w.mirrors(t, l[place], 98, 1030)
	}
	got := w.looks()
	leaves, want := []int{2, 3, 0, 4, 5, 6, 7, 1}, []string{}
	sent := 0
	for place, d := range w.c.Deals() {
		if d.Leaf != leaves[place] || d.Act == 0 {
			t.Errorf("%#v, want leaf %d", d, leaves[place])
		}
		if d.Act == 1 {
			if x := got.sends[sent]; x.Tx.Nonce != sent || x != fulfils(sent, d.Leaf, d, x.Tx.Var) {
				t.Errorf("%#v", x)
			}
			sent++
		}
	}
	for _, place := range []int{2, 7, 0, 1, 3, 4, 5, 6} {
		d := w.c.Deals()[place]
		want = append(want, string(deal.Payload(d.Act, deal.Key(d.Inv), wide.Of(1))))
	}
	if !slices.Equal(w.c.Signed(), want) || len(got.sends) != 5 || len(got.messages) != 5 {
		t.Errorf("%#v\n%q", got, w.c.Signed())
	}
	w.restarts(t)
	if !slices.Equal(w.c.Signed(), want) {
		t.Errorf("behind a fall: %q", w.c.Signed())
	}
	w.ninth(t)
}

// ninth tells it, if a user whose leaves are used up acts.
func (w *town) ninth(t *testing.T) {
	t.Helper()
	d := w.deals(t, "ninth")
	for range 2 {
		if err := w.c.Recall("ninth"); err != api.ErrFull || w.c.Down() {
			t.Errorf("Recall = %d", err)
		}
	}
	w.mirrors(t, d, 10, 1030)
	w.looks()
	d2 := w.deals(t, "tenth")
	w.mirrors(t, d2, 98, 1030)
	for range 2 {
		for _, x := range w.looks().sends {
			if x.Tx.Inv == d2.Inv || x.Tx.Inv == d.Inv {
				t.Errorf("without a leaf: %#v", x)
			}
		}
	}
	for _, d := range w.c.Deals()[8:] {
		if d.Act != 0 || d.Leaf != 0 {
			t.Errorf("without a leaf: %#v", d)
		}
	}
	if len(w.c.Signed()) != 8 || w.c.Down() {
		t.Errorf("%d are signed", len(w.c.Signed()))
	}
	w.s.Rise(500)
	if x := w.looks().sends; len(x) < 10 || x[len(x)-1].Tx.Kind != 6 {
		t.Errorf("what is past is taken back without a leaf: %#v", x)
	}
}

// P20.1, Look: what is sent in one look has Nonces that go on, on each side, behind those that wait.
func TestNonces(t *testing.T) {
	w := begin(t, 0, 2, 1<<16)
	old := w.deals(t, "old")
	both := w.deals(t, "both")
	for range 3 {
		w.put(1, api.Tx{From: 0, Kind: 1, Amount: wide.Of(1), Inv: api.Inv{To: 7}})
	}
	far, more := w.mirrors(t, old, 98, 1030), w.mirrors(t, both, 98, 1031)
	w.bids(t, ask(0, "x"), 98)
	w.bids(t, ask(0, "y"), 98)
	w.bids(t, ask(0, "z"), 98)
	// Of its own, 2 waits, and 4, which can't be included yet.
	for _, nonce := range []int{2, 4} {
		if !w.s.Submit(api.Tx{From: 0, Nonce: nonce, Kind: 1, Amount: wide.Of(1), Inv: api.Inv{To: 7}}) {
			t.Fatal("it may not be")
		}
	}
	// Another one's Nonces are its own.
	for _, nonce := range []int{5, 6} {
		if !w.s.Submit(api.Tx{From: 7, Nonce: nonce, Kind: 1, Amount: wide.Of(1), Inv: api.Inv{To: 0}}) {
			t.Fatal("it may not be")
		}
	}
	w.s.Rise(1)
	got := w.looks()
	if len(got.sends) != 5 || len(got.messages) != 2 {
		t.Fatalf("Look() = %#v", got)
	}
	if got.sends[0] != fulfils(3, 0, old, far) || got.sends[1] != fulfils(4, 1, both, more) {
		t.Errorf("to the receiving side: %#v", got.sends[:2])
	}
	for place, nonce := range []int{3, 5, 6} {
		x := got.sends[2+place]
		if x.Side != 0 || x.Tx.Kind != 4 || x.Tx.From != 0 || x.Tx.Nonce != nonce || x.Tx.Inv.Id != string(rune('x'+place)) {
			t.Errorf("to the sending side: %#v, want Nonce %d", x, nonce)
		}
	}
	w.submit(t, got.sends)
	if len(w.s.Pool()) != 2 || len(w.r.Pool()) != 0 {
		t.Error("not all of its own is taken")
	}
	w.sends(t, "all is there")
}

// P20.1, Fall: of the records' octets the first keep last: a beginning of the records; nothing is sent.
func TestFall(t *testing.T) {
	for keep := -2; keep < 300; keep++ {
		w := begin(t, 0, 1, 900)
		sure := w.deals(t, "sure")
		w.mirrors(t, sure, 98, 1020)
		w.bids(t, ask(0, "ab"), 98)
		w.bids(t, ask(0, "cd"), 98)
		w.s.Rise(1)
		states := fmt.Sprintf("%#v %#v %v %v", w.s.State(), w.r.State(), w.s.Pool(), w.r.Pool())
		w.c.Fall(w.s, w.r, keep)
		if !w.c.Down() || states != fmt.Sprintf("%#v %#v %v %v", w.s.State(), w.r.State(), w.s.Pool(), w.r.Pool()) {
			t.Fatal("it is not down, or something was sent")
		}
		// Each deal has 116 octets, the act 24.
		want, act := 1, 0
		switch {
		case keep >= 116+116+24:
			want, act = 3, 1
		case keep >= 116+116:
			want = 3
		case keep >= 116:
			want = 2
		}
		l := w.c.Deals()
		if len(l) != want || l[0].Act != act || len(w.c.Signed()) != act {
			t.Fatalf("keep %d: Deals() = %#v", keep, l)
		}
		if m, x := w.c.Look(w.s, w.r); len(m)+len(x) != 0 {
			t.Errorf("it is down, and sends %#v, %#v", m, x)
		}
		w.c.Fall(w.s, w.r, 0)
		w.c.Fall(nil, nil, 1<<20)
		if got := w.c.Deals(); !slices.Equal(got, l) {
			t.Errorf("what lasted is sure: %#v", got)
		}
		w.c.Up()
		if got := w.looks(); len(got.sends) != want || len(got.messages) != 1 || len(w.c.Deals()) != want {
			t.Errorf("keep %d: behind the start: %#v", keep, got)
		}
	}
}

// P20.1: where there is no room for all records the user is down, nothing is sent, and it knows what the journal tells, with an empty room.
func TestNoRoom(t *testing.T) {
	for room := -1; room < 400; room++ {
		w := begin(t, 0, 1, room)
		w.bids(t, ask(0, "ab"), 98)
		w.s.Rise(1)
		got := w.looks()
		if fits := room >= 116; w.c.Down() == fits || len(w.c.Deals()) == 1 != fits || len(got.sends) == 1 != fits {
			t.Fatalf("room %d: %#v", room, got)
		}
		if room < 116 {
			w.empty(t)
			continue
		}
		w.submit(t, got.sends)
		w.mirrors(t, w.c.Deals()[0], 98, 1020)
		w.bids(t, ask(0, "cd"), 98)
		w.s.Rise(1)
		got = w.looks()
		if fits := room >= 116+116+24; w.c.Down() == fits || len(got.sends) == 2 != fits || len(got.messages) == 1 != fits {
			t.Fatalf("room %d: %#v", room, got)
		}
		if room < 116+116+24 {
			if l := w.c.Deals(); len(l) != 1 || l[0].Act != 0 || len(w.c.Signed()) != 0 {
				t.Fatalf("room %d: it knows %#v", room, l)
			}
			w.empty(t)
			w.recallsIfRoom(t, room)
		}
	}
}

// empty starts a user that is down, and tells it, if its auction room is not empty: what it had asked for is open no more.
func (w *town) empty(t *testing.T) {
	t.Helper()
	if _, err := w.c.Ask(ask(0, "new"), 1000); err != api.ErrDown {
		t.Fatalf("it is not down: %d", err)
	}
	if err := w.c.Up(); err != api.OK {
		t.Fatal(err)
	}
	for _, id := range []string{"ab", "cd"} {
		if w.c.Hear(put(t, api.Message{Kind: 2, Bid: offer(2, ask(0, id), 97, 1020)}), 1000) {
			t.Fatal("the room is not empty")
		}
	}
}

// recallsIfRoom recalls the deal "ab" behind its record: ErrFull, and it is down, if there is no room.
func (w *town) recallsIfRoom(t *testing.T, room int) {
	t.Helper()
	want := api.OK
	if room < 116+24 {
		want = api.ErrFull
	}
	w.c.Ask(ask(0, "cd"), 1000)
	if err := w.c.Recall("ab"); err != want || w.c.Down() != (want != api.OK) {
		t.Fatalf("room %d: Recall = %d, down %t", room, err, w.c.Down())
	}
	if got := w.act(); got == 2 != (want == api.OK) || got == 2 != (len(w.c.Signed()) == 1) {
		t.Fatalf("room %d: act %d", room, got)
	}
	if want != api.OK {
		w.empty(t)
	}
}

// P20.1, Fall: where there is no room for all records none lasts.
func TestFallWithoutRoom(t *testing.T) {
	for room, want := range map[int]int{0: 0, 116: 0, 231: 0, 232: 2, 1 << 16: 2, 1 << 20: 2} {
		w := begin(t, 0, 1, room)
		w.bids(t, ask(0, "ab"), 98)
		w.bids(t, ask(0, "cd"), 98)
		w.s.Rise(1)
		w.c.Fall(w.s, w.r, 1<<20)
		if got := len(w.c.Deals()); got != want || !w.c.Down() {
			t.Errorf("room %d: %d deals", room, got)
		}
	}
}

// P20.1, Up: ErrState, if it is not down; then the user goes on with what it knows.
func TestUp(t *testing.T) {
	w := begin(t, 1, 1, 900)
	for range 2 {
		if err := w.c.Up(); err != api.ErrState || w.c.Down() {
			t.Errorf("Up() = %d", err)
		}
	}
	w.deals(t, "a")
	w.c.Fall(w.s, w.r, 0)
	before := w.c.Deals()
	if err := w.c.Up(); err != api.OK || w.c.Down() {
		t.Errorf("Up() = %d", err)
	}
	if err := w.c.Up(); err != api.ErrState || w.c.Down() {
		t.Errorf("Up() = %d", err)
	}
	if got := w.c.Deals(); !slices.Equal(got, before) || len(got) != 1 {
		t.Errorf("Deals() = %#v", got)
	}
	w.deals(t, "b")
}

// P20.1: it is down, and still tells what it knows.
func TestDownTells(t *testing.T) {
	w := begin(t, 1, 1, 900)
	d := w.deals(t, "a")
	if err := w.c.Recall("a"); err != api.OK {
		t.Fatal(err)
	}
	w.c.Fall(w.s, w.r, 0)
	d.Act = 2
	if !slices.Equal(w.c.Deals(), []Deal{d}) || len(w.c.Signed()) != 1 || w.c.Root() != rootOf("user\x01") || w.c.Fee(wide.Of(2)) != wide.Of(1) {
		t.Error("it tells otherwise")
	}
}

// P20.1, P1: of one that nobody made.
func TestNobodyMade(t *testing.T) {
	var zero Client
	for name, c := range map[string]*Client{"nil": nil, "zero": &zero, "new": new(Client), "literal": {}} {
		w := begin(t, 0, 1, 900)
		w.deals(t, "a")
		for range 2 {
			for _, n := range numbers() {
				for _, a := range []api.Ask{{}, ask(0, "a"), ask(n, "a"), ask(0, "")} {
					if m, err := c.Ask(a, n); err != api.ErrState || m != (api.Message{}) {
						t.Errorf("%s: Ask = %#v, %d", name, m, err)
					}
				}
				if c.Hear(put(t, api.Message{Kind: 2, Bid: offer(3, ask(0, "a"), 98, 1020)}), n) || c.Hear(nil, n) {
					t.Errorf("%s: Hear is true", name)
				}
				c.Fall(w.s, w.r, n)
			}
			for _, s := range []*chain.Chain{w.s, w.r, nil} {
				if m, l := c.Look(s, w.r); len(m)+len(l) != 0 {
					t.Errorf("%s: Look = %#v, %#v", name, m, l)
				}
			}
			for _, id := range []string{"", "a"} {
				if err := c.Recall(id); err != api.ErrState {
					t.Errorf("%s: Recall = %d", name, err)
				}
			}
			if err := c.Up(); err != api.ErrState || !c.Down() {
				t.Errorf("%s: Up = %d, down %t", name, err, c.Down())
			}
			if len(c.Deals())+len(c.Signed())+len(c.Root()) != 0 {
				t.Errorf("%s: it tells something", name)
			}
		}
		if c != nil && !reflect.DeepEqual(*c, Client{}) {
			t.Errorf("%s: something was told to it", name)
		}
	}
}

// spoil writes over all of a list, as far as it has room.
func spoil[T any](l []T, with T) {
	rest := l[:cap(l)]
	for place := range rest {
		rest[place] = with
	}
}

// told is all that a user tells by itself.
func told(c *Client) string {
	return fmt.Sprintf("%#v %q %q %t", c.Deals(), c.Signed(), c.Root(), c.Down())
}

// P20.3: answers are new memory; what is handed in is not kept, and not changed.
func TestMemory(t *testing.T) {
	roots := append(make([]string, 0, 9), both()...)
	c, _ := New(0, roots, 1, 1<<16)
	if !slices.Equal(roots, both()) || roots[:3][2] != "" {
		t.Errorf("handed in, and changed: %q", roots)
	}
	spoil(roots, "spoilt")
	w := begin(t, 0, 1, 900)
	w.c = c
	w.deals(t, "a")
	w.restarts(t)
	d := w.deals(t, "b")
	if roots[0] != "spoilt" {
		t.Error("it wrote into what was handed in")
	}
	w.mirrors(t, d, 98, 1030)
	w.c.Recall("a")
	w.bids(t, ask(0, "c"), 98)
	w.s.Rise(1)
	got := w.looks()
	if len(got.sends) != 2 || len(got.messages) != 1 {
		t.Fatalf("%#v", got)
	}
	want := told(c)
	first, second := c.Deals(), c.Signed()
	keptDeals, keptSigned := slices.Clone(first), slices.Clone(second)
	spoil(got.sends, api.Send{Side: 9})
	spoil(got.messages, api.Message{Kind: 9})
	spoil(c.Deals(), Deal{Leaf: 9})
	spoil(c.Signed(), "spoilt")
	if told(c) != want || !slices.Equal(first, keptDeals) || !slices.Equal(second, keptSigned) {
		t.Error("answers share memory with the user, or with each other")
	}
	again := w.looks()
	if len(again.sends) != 2 || again.sends[0].Side != 1 || again.sends[1].Side != 0 {
		t.Errorf("Look() = %#v", again)
	}
	first = append(first, Deal{Leaf: 7})
	w.deals(t, "d")
	w.c.Recall("d")
	if first[3].Leaf != 7 || !slices.Equal(first[:3], keptDeals) || !slices.Equal(second, keptSigned) {
		t.Error("what was told changed an answer")
	}
}

// P3, P20.3: users know nothing of each other, and a look changes neither side.
func TestTwoUsers(t *testing.T) {
	one, two := begin(t, 0, 1, 900), begin(t, 1, 1, 900)
	two.s, two.r = one.s, one.r
	first := one.deals(t, "a")
	before := told(one.c)
	second := two.deals(t, "a")
	if told(one.c) != before || first.Inv == second.Inv {
		t.Error("another user's deal is its own")
	}
	one.mirrors(t, first, 98, 1020)
	states := fmt.Sprintf("%#v %#v %v %v", one.s.State(), one.r.State(), one.s.Pool(), one.r.Pool())
	two.sends(t, "it is another's")
	one.looks()
	if got := fmt.Sprintf("%#v %#v %v %v", one.s.State(), one.r.State(), one.s.Pool(), one.r.Pool()); got != states {
		t.Error("a look changed a side")
	}
	if len(two.c.Signed()) != 0 || len(one.c.Signed()) != 1 {
		t.Error("it acted for another's")
	}
}

// P1: no call panics, whatever it is given.
func TestOdd(t *testing.T) {
	for _, n := range numbers() {
		w := begin(t, 0, n, 1<<16)
		odd := api.Ask{User: 0, Send: n, Recv: n, To: n, Amount: wide.Of(1), Id: "odd"}
		w.c.Ask(odd, n)
		w.c.Ask(ask(0, "a"), n)
		w.c.Hear(put(t, api.Message{Kind: 2, Bid: offer(3, ask(0, "a"), 98, 1<<40)}), n)
		for _, s := range []*chain.Chain{nil, {}, w.s, w.r, chain.New(0, n), chain.New(1, n), chain.New(0, 1<<40)} {
			for _, r := range []*chain.Chain{nil, {}, w.s, w.r, chain.New(1, n), s} {
				w.c.Look(s, r)
			}
		}
		w.c.Recall("a")
		w.c.Fall(nil, nil, n)
		w.c.Up()
		w.c.Fall(w.s, w.r, n)
		if !w.c.Down() || w.c.Up() != api.OK {
			t.Error("it is not down")
		}
	}
}

// P20.1, Look: a deal at the last time of all is made, though no side takes it.
func TestLastTime(t *testing.T) {
	w := begin(t, 0, 4, 900)
	w.s = chain.New(0, 1<<40-1)
	w.bids(t, ask(0, "a"), 98)
	w.s.Rise(1)
	got := w.looks()
	if l := w.c.Deals(); len(l) != 1 || l[0].Var.Expiry != 1<<40+76 || len(got.sends) != 1 || w.c.Down() {
		t.Errorf("%#v, %#v", l, got)
	}
	before := told(w.c)
	w.restarts(t)
	if told(w.c) != before {
		t.Errorf("behind a fall: %s", told(w.c))
	}
}

// P3 of DOC.md: the same again answers the same, also side by side.
func TestSideBySide(t *testing.T) {
	roots, a := both(), ask(0, "a")
	b := put(t, api.Message{Kind: 2, Bid: offer(3, a, 98, 1020)})
	answers := make(chan string)
	for range 4 {
		go func() {
			c, _ := New(0, roots, 1, 900)
			s, r := chain.New(0, 1000), chain.New(1, 1000)
			c.Ask(a, 1000)
			c.Hear(b, 1000)
			s.Rise(1)
			_, l := c.Look(s, r)
			c.Recall("a")
			c.Fall(s, r, 5)
			answers <- fmt.Sprintf("%#v %s", l, told(c))
		}()
	}
	want := <-answers
	for range 3 {
		if <-answers != want {
			t.Error("answers differ when calls run side by side")
		}
	}
}
