package router

import (
	"fmt"
	"math"
	"reflect"
	"slices"
	"testing"

	"narrows/api"
	"narrows/bid"
	"narrows/chain"
	"narrows/client"
	"narrows/deal"
	"narrows/escrow"
	"narrows/mail"
	"narrows/mss"
	"narrows/wide"
)

// rootsOf are made once: they take long.
var rootsOf = map[string]string{}

// rootOf is a key's root.
func rootOf(seed string) string {
	if rootsOf[seed] == "" {
		rootsOf[seed] = mss.Root(seed)
	}
	return rootsOf[seed]
}

// numbers are numbers of any size.
func numbers() []int {
	return []int{math.MinInt, math.MinInt + 1, -1 << 40, -257, -5, -1, 0, 1, 2, 3, 4, 5, 9, 255, 256, 258, 1000, 1 << 16, 1 << 32, 1<<40 - 1, 1 << 40, 1<<40 + 1, math.MaxInt}
}

// ask is what a user wants: of asset 0, for asset 1.
func ask(user int, id string, amount uint64) api.Ask {
	return api.Ask{User: user, Send: 0, Recv: 1, To: 5, Amount: wide.Of(amount), Id: id}
}

// put is a message's octets.
func put(t *testing.T, m api.Message) []byte {
	t.Helper()
	b, err := mail.Put(m)
	if err != api.OK {
		t.Fatalf("mail.Put(%#v): %d", m, err)
	}
	return b
}

// transferOf is the transfer of a user with that root who takes a bid.
func transferOf(b api.Bid, root string) api.Inv {
	return api.Inv{User: b.Ask.User, Root: root, Router: b.Router, Send: b.Ask.Send, Recv: b.Ask.Recv, To: b.Ask.To, Id: b.Ask.Id}
}

// signature is what a transfer's user signs with a leaf.
func signature(i api.Inv, act int, fee uint64, leaf int) string {
	sig, _, err := mss.Sign(api.Key{Seed: "user" + string(rune(i.User)), Next: leaf}, deal.Payload(act, deal.Key(i), wide.Of(fee)))
	if err != api.OK {
		panic("mss.Sign")
	}
	return sig
}

// town is a router, and both sides.
type town struct {
	r *Router
	s *chain.Chain
	t *chain.Chain
}

// begin is a router and two sides at time 1000, on the receiving one of which routers have 400 of each asset in their vaults.
func begin(t *testing.T, router int, d int, room int) *town {
	t.Helper()
	r, err := New(router, d, room)
	if err != api.OK || r == nil {
		t.Fatalf("New(%d): %d", router, err)
	}
	w := &town{r: r, s: chain.New(0, 1000), t: chain.New(1, 1000)}
	for router := 2; router <= 3; router++ {
		for asset := range 2 {
			w.must(t, 1, api.Tx{From: router, Kind: 2, Asset: asset, Amount: wide.Of(400), Inv: api.Inv{Router: router}})
		}
	}
	return w
}

// side is a side by its number.
func (w *town) side(n int) *chain.Chain {
	return []*chain.Chain{w.s, w.t}[n]
}

// put includes a transaction at once, and is what comes of it.
func (w *town) put(side int, t api.Tx) api.Errno {
	c := w.side(side)
	t.Nonce = c.Next(t.From)
	if !c.Submit(t) {
		return api.ErrKind
	}
	include(c)
	for _, e := range slices.Backward(c.Events(0)) {
		if e.Tx == t {
			return e.Code
		}
	}
	return api.ErrNone
}

// must includes a transaction that does not revert.
func (w *town) must(t *testing.T, side int, x api.Tx) {
	t.Helper()
	if err := w.put(side, x); err != api.OK {
		t.Fatalf("%#v: %d", x, err)
	}
}

// include includes all that waits and is taken.
func include(c *chain.Chain) {
	for place := 0; place < len(c.Pool()); {
		if c.Include(place) {
			place = 0
		} else {
			place++
		}
	}
}

// submit submits what was sent, and includes it.
func (w *town) submit(t *testing.T, l ...api.Send) {
	t.Helper()
	for _, x := range l {
		if !w.side(x.Side).Submit(x.Tx) {
			t.Fatalf("it may not be: %#v", x)
		}
	}
	include(w.s)
	include(w.t)
}

// rise lets both sides' times rise.
func (w *town) rise(ticks int) {
	w.s.Rise(ticks)
	w.t.Rise(ticks)
}

// hears lets the router hear an ask.
func (w *town) hears(t *testing.T, l ...api.Ask) {
	t.Helper()
	for _, a := range l {
		if !w.r.Hear(put(t, api.Message{Kind: 1, Ask: a})) {
			t.Fatalf("it is not kept: %#v", a)
		}
	}
}

// sends tells it, if a look sends other than that, or tells users something.
func (w *town) sends(t *testing.T, what string, want ...api.Send) {
	t.Helper()
	m, l := w.r.Look(w.s, w.t)
	if len(m) > 0 || !slices.Equal(l, want) {
		t.Fatalf("%s: Look() =\n%#v\n%#v; want\n%#v", what, m, l, want)
	}
}

// tells is the asks for which a look tells users bids; nothing else goes out.
func (w *town) tells(t *testing.T) []api.Ask {
	t.Helper()
	m, l := w.r.Look(w.s, w.t)
	if len(l) > 0 {
		t.Fatalf("Look() sends %#v", l)
	}
	var asks []api.Ask
	for _, x := range m {
		if x != (api.Message{Kind: 2, Bid: x.Bid}) {
			t.Fatalf("it is no bid: %#v", x)
		}
		asks = append(asks, x.Bid.Ask)
	}
	return asks
}

// bids lets the router bid for an ask.
func (w *town) bids(t *testing.T, a api.Ask) api.Bid {
	t.Helper()
	w.hears(t, a)
	if got := w.tells(t); !slices.Equal(got, []api.Ask{a}) {
		t.Fatalf("it does not bid for %#v, but for %#v", a, got)
	}
	l := w.r.Bids()
	return l[len(l)-1]
}

// taken is what a user prepares that takes a bid.
func taken(b api.Bid, expiry int) api.Tx {
	return api.Tx{From: b.Ask.User, Kind: 4, Inv: transferOf(b, rootOf("user"+string(rune(b.Ask.User)))), Var: api.Var{Amount: b.Ask.Amount, Expiry: expiry}}
}

// takes lets the user take a bid, and is what the router mirrors then.
func (w *town) takes(t *testing.T, b api.Bid, d int) Mirror {
	t.Helper()
	x := taken(b, w.s.Time()+16*d+12)
	w.must(t, 0, x)
	return Mirror{Inv: x.Inv, Var: api.Var{Amount: b.Amount, Expiry: w.t.Time() + 8*d + 4}, Far: x.Var, Offer: b.Amount}
}

// mirrors is a mirror of an ask, prepared on both sides.
func (w *town) mirrors(t *testing.T, a api.Ask) Mirror {
	t.Helper()
	m := w.takes(t, w.bids(t, a), w.r.d)
	_, l := w.r.Look(w.s, w.t)
	w.submit(t, l...)
	if got := w.r.Mirrors(); !slices.Contains(got, m) || escrow.Status(w.t.State(), deal.Key(m.Inv)) != 1 {
		t.Fatalf("it is not mirrored: %#v", got)
	}
	return m
}

// prepares is what the router sends to prepare a mirror.
func prepares(nonce int, m Mirror) api.Send {
	return api.Send{Side: 1, Tx: api.Tx{From: m.Inv.Router, Nonce: nonce, Kind: 4, Inv: m.Inv, Var: m.Var}}
}

// cancels is what the router sends to take a mirror back.
func cancels(nonce int, m Mirror) api.Send {
	return api.Send{Side: 1, Tx: api.Tx{From: m.Inv.Router, Nonce: nonce, Kind: 6, Inv: m.Inv, Var: m.Var}}
}

// released is what fulfils a mirror on the receiving side, by the user's signature.
func released(m Mirror, from int, fee uint64, leaf int) api.Tx {
	return api.Tx{From: from, Kind: 5, Inv: m.Inv, Var: m.Var, Fee: wide.Of(fee), Sig: signature(m.Inv, 1, fee, leaf)}
}

// brings is what the router sends when released was included.
func brings(nonce int, m Mirror, x api.Tx) api.Send {
	return api.Send{Side: 0, Tx: api.Tx{From: m.Inv.Router, Nonce: nonce, Kind: 5, Inv: m.Inv, Var: m.Far, Fee: x.Fee, Sig: x.Sig}}
}

// restarts lets the router fall, so that nothing lasts that is not sure, and start again.
func (w *town) restarts(t *testing.T) {
	t.Helper()
	w.r.Fall(w.s, w.t, 0)
	if !w.r.Down() {
		t.Fatal("it is not down")
	}
	if err := w.r.Up(); err != api.OK || w.r.Down() {
		t.Fatalf("Up() = %d", err)
	}
}

// told is all that a router tells by itself.
func told(r *Router) string {
	return fmt.Sprintf("%#v %#v %t", r.Bids(), r.Mirrors(), r.Down())
}

// P21.1, the chapter's example: routers are 2 and 3.
func TestNew(t *testing.T) {
	for _, n := range numbers() {
		for _, other := range numbers() {
			want := api.OK
			if n != 2 && n != 3 {
				want = api.ErrRange
			}
			r, err := New(n, other, other)
			if err != want || (r == nil) != (want != api.OK) {
				t.Fatalf("New(%d, %d, %d) = %v, %d, want %d", n, other, other, r, err, want)
			}
			if want == api.OK && (r.Down() || len(r.Bids()) != 0 || len(r.Mirrors()) != 0) {
				t.Errorf("New(%d): %#v", n, r)
			}
		}
	}
}

// P21.1, Hear: an ask's message is kept, if it was not heard.
func TestHear(t *testing.T) {
	w := begin(t, 2, 1, 900)
	hears := func(what string, b []byte, want bool) {
		t.Helper()
		before := slices.Clone(b)
		if got := w.r.Hear(b); got != want {
			t.Errorf("%s: Hear = %t", what, got)
		}
		if !slices.Equal(b, before) {
			t.Errorf("%s: what was handed in is another", what)
		}
	}
	a := ask(0, "a", 100)
	first := put(t, api.Message{Kind: 1, Ask: a})
	hears("nothing", nil, false)
	hears("too few octets", first[:len(first)-1], false)
	hears("too many octets", append(slices.Clone(first), 0), false)
	hears("no octets of it", first[1:], false)
	hears("much", make([]byte, 1<<14), false)
	hears("a bid", put(t, api.Message{Kind: 2, Bid: api.Bid{Router: 2, Ask: a, Amount: wide.Of(1)}}), false)
	hears("a release", put(t, api.Message{Kind: 3, Inv: transferOf(api.Bid{Router: 2, Ask: a}, rootOf("user\x00")), Var: api.Var{Amount: wide.Of(9)}}), false)
	hears("an ask", first, true)
	hears("again", first, false)
	for name, set := range map[string]func(*api.Ask){
		"another user":     func(a *api.Ask) { a.User = 1 },
		"another asset":    func(a *api.Ask) { a.Send = 1 },
		"another one":      func(a *api.Ask) { a.Recv = 0 },
		"another receiver": func(a *api.Ask) { a.To = 4 },
		"another amount":   func(a *api.Ask) { a.Amount[3] = 1 },
		"another Id":       func(a *api.Ask) { a.Id = "b" },
	} {
		other := a
		set(&other)
		hears(name, put(t, api.Message{Kind: 1, Ask: other}), true)
		hears(name+" again", put(t, api.Message{Kind: 1, Ask: other}), false)
	}
	w.r.Fall(w.s, w.t, 0)
	hears("down", first, false)
	hears("down", put(t, api.Message{Kind: 1, Ask: ask(0, "new", 100)}), false)
	w.r.Up()
	hears("none is heard behind a start", first, true)
	hears("again", first, false)
}

// P21.1, Hear: at most 16 are kept from a start on, whether there are bids for them or not.
func TestHearMany(t *testing.T) {
	w := begin(t, 3, 1, 1<<16)
	for start := range 2 {
		for n := range 20 {
			b := put(t, api.Message{Kind: 1, Ask: ask(n%2, fmt.Sprint(n), 10)})
			if got := w.r.Hear(b); got != (n < 16) {
				t.Errorf("start %d, ask %d: %t", start, n, got)
			}
			if w.r.Hear(b) {
				t.Errorf("start %d, ask %d is kept twice", start, n)
			}
			if n%5 == 0 {
				w.tells(t)
			}
		}
		if got := w.tells(t); len(got) != 0 {
			t.Errorf("start %d: it bids for %#v", start, got)
		}
		w.restarts(t)
	}
}

// P21.1, Look: a bid is its offer, by its points, until 8 d and 8 from the sending side's time on, signed with the next leaf.
func TestBids(t *testing.T) {
	for d, long := range map[int]int{math.MinInt: 16, 0: 16, 1: 16, 2: 24, 3: 32, 4: 40, 5: 40, math.MaxInt: 40} {
		for router := 2; router <= 3; router++ {
			w := begin(t, router, d, 1<<16)
			w.t.Rise(77)
			w.s.Rise(5)
			asks := []api.Ask{ask(0, "sixteen octets..", 401), {User: 1, Send: 1, Recv: 0, To: 7, Amount: wide.Of(230), Id: "a"}, {User: 0, Send: 0, Recv: 0, To: 3, Amount: wide.Of(1), Id: "a"}}
			amounts := map[int][]uint64{2: {400, 230, 1}, 3: {400, 229, 1}}[router]
			w.hears(t, asks...)
			messages, sends := w.r.Look(w.s, w.t)
			var want []api.Bid
			for leaf, a := range asks {
				b := signs(api.Bid{Router: router, Ask: a, Amount: wide.Of(amounts[leaf]), Until: 1005 + long}, leaf)
				want = append(want, b)
				if len(messages) != 3 || messages[leaf] != (api.Message{Kind: 2, Bid: b}) {
					t.Fatalf("d %d: Look() = %#v; want %#v", d, messages, b)
				}
				if !bid.Valid(b, rootOf(bid.Seed(router))) || mss.Leaf(b.Sig) != leaf {
					t.Errorf("it is not signed: %#v", b)
				}
			}
			if len(sends) != 0 || !slices.Equal(w.r.Bids(), want) || len(w.r.Mirrors()) != 0 {
				t.Errorf("d %d: %#v, Bids() = %#v", d, sends, w.r.Bids())
			}
			w.sends(t, "it bids once")
			w.restarts(t)
			if !slices.Equal(w.r.Bids(), want) {
				t.Errorf("behind a fall: %#v", w.r.Bids())
			}
			w.hears(t, asks...)
			w.s.Rise(500)
			w.sends(t, "it bids once, over all starts")
			if !slices.Equal(w.r.Bids(), want) {
				t.Errorf("behind a fall: %#v", w.r.Bids())
			}
		}
	}
}

// P21.1, Look: while a leaf is left: eight bids, over all starts.
func TestLeaves(t *testing.T) {
	w := begin(t, 2, 1, 1<<16)
	for n := range 5 {
		if b := w.bids(t, ask(n%2, fmt.Sprint("a", n), 5)); mss.Leaf(b.Sig) != n {
			t.Errorf("bid %d: leaf %d", n, mss.Leaf(b.Sig))
		}
	}
	w.restarts(t)
	var more []api.Ask
	for n := range 6 {
		more = append(more, ask(n%2, fmt.Sprint("b", n), 5))
	}
	w.hears(t, more...)
	if got := w.tells(t); !slices.Equal(got, more[:3]) {
		t.Errorf("it bids for %#v", got)
	}
	for leaf, b := range w.r.Bids() {
		if mss.Leaf(b.Sig) != leaf || !bid.Valid(b, rootOf("router\x02")) {
			t.Errorf("bid %d: leaf %d", leaf, mss.Leaf(b.Sig))
		}
	}
	w.rise(500)
	for range 2 {
		w.sends(t, "no leaf is left")
		w.restarts(t)
		w.hears(t, more...)
	}
	if len(w.r.Bids()) != 8 || w.r.Down() {
		t.Errorf("%d bids", len(w.r.Bids()))
	}
}

// P21.1, Look: its vault on the receiving side covers the offer, just so.
func TestBidCovered(t *testing.T) {
	for router := 2; router <= 3; router++ {
		for recv := range 2 {
			for vault, want := range map[uint64]bool{0: false, 98: false, 99: true, 100: true, 400: true} {
				w := begin(t, router, 1, 900)
				if vault < 400 {
					w.must(t, 1, api.Tx{From: router, Kind: 3, Asset: recv, Amount: wide.Of(400 - vault)})
				}
				// Neither the other router's vault counts, nor what it has on the sending side, or of the other asset.
				w.must(t, 0, api.Tx{From: router, Kind: 2, Asset: recv, Amount: wide.Of(300), Inv: api.Inv{Router: router}})
				a := ask(0, "a", 99)
				a.Send, a.Recv = 1-recv, recv
				w.hears(t, a)
				if got := w.tells(t); len(got) == 1 != want || len(w.r.Bids()) == 1 != want {
					t.Errorf("router %d, asset %d, a vault of %d: %#v", router, recv, vault, got)
				}
				if !want {
					w.must(t, 1, api.Tx{From: 5, Kind: 2, Asset: recv, Amount: wide.Of(99 - vault), Inv: api.Inv{Router: router}})
					if got := w.tells(t); !slices.Equal(got, []api.Ask{a}) {
						t.Errorf("what was not covered is bid for later: %#v", got)
					}
				}
			}
		}
	}
}

// P21.1, Look: beside it all that it bid for of that asset is covered, while that is neither mirrored nor past.
func TestBidBesideOthers(t *testing.T) {
	a, b, c := ask(0, "a", 150), ask(1, "b", 150), ask(0, "c", 101)
	other := ask(0, "d", 300)
	other.Send, other.Recv = 1, 0
	w := begin(t, 2, 1, 1<<16)
	w.hears(t, a, c, b, other)
	// 150, 101 and 150 are more than 400: what comes first goes ahead; the other asset is another vault's.
	if got := w.tells(t); !slices.Equal(got, []api.Ask{a, c, other}) {
		t.Errorf("it bids for %#v", got)
	}
	small := ask(1, "e", 149)
	w.hears(t, small)
	if got := w.tells(t); !slices.Equal(got, []api.Ask{small}) {
		t.Errorf("149 are left: %#v", got)
	}
	w.sends(t, "nothing is left")
	w.rise(16)
	w.sends(t, "none is past")
	w.restarts(t)
	w.hears(t, b)
	w.sends(t, "none is past, over all starts")
	w.t.Rise(100)
	w.sends(t, "it is the sending side's time that tells")
	w.s.Rise(1)
	if got := w.tells(t); !slices.Equal(got, []api.Ask{b}) {
		t.Errorf("all others are past: %#v", got)
	}
}

// P21.1, Look: what is mirrored is not counted once more, only the vault is asked.
func TestBidBesideMirrors(t *testing.T) {
	a, b := ask(0, "a", 250), ask(1, "b", 150)
	w := begin(t, 3, 4, 1<<16)
	first := w.bids(t, a)
	w.hears(t, b, ask(0, "c", 152))
	if got := w.tells(t); !slices.Equal(got, []api.Ask{b}) {
		t.Errorf("it bids for %#v", got)
	}
	m := w.takes(t, first, 4)
	x := prepares(2, m)
	w.sends(t, "it is mirrored", x)
	// It is not prepared yet: 400 are in the vault, 150 of them for b.
	if _, l := w.r.Look(w.s, w.t); len(l) != 1 || len(w.r.Bids()) != 3 || w.r.Bids()[2].Ask.Id != "c" {
		t.Errorf("250 are free: %#v", w.r.Bids())
	}
	w.submit(t, x)
	w.hears(t, ask(1, "d", 1))
	w.sends(t, "150 are in the vault, 302 are for b and c")
	w.restarts(t)
	w.hears(t, ask(1, "d", 1))
	w.sends(t, "the same behind a start")
	w.s.Rise(41)
	if got := w.tells(t); !slices.Equal(got, []api.Ask{ask(1, "d", 1)}) {
		t.Errorf("b and c are past: %#v", got)
	}
}

// P21.1, Look: nothing is bid for amounts whose offer has no room, or that no vault covers.
func TestBidWideAmounts(t *testing.T) {
	top := uint64(math.MaxUint64)
	w := begin(t, 2, 1, 1<<16)
	for place, amount := range []api.Wide{{401, 0, 0, 1}, {1, 1}, {0, 0, 1}, {0, 0, 0, 1}, {top, top, top, top}, {0, 0, 0, 1 << 60}, {402}, {top}} {
		a := ask(0, fmt.Sprint(place), 1)
		a.Amount = amount
		w.hears(t, a)
	}
	w.hears(t, ask(1, "all", 401))
	if got := w.tells(t); !slices.Equal(got, []api.Ask{ask(1, "all", 401)}) {
		t.Errorf("it bids for %#v", got)
	}
}

// P21.1, Look: nothing is bid whose Until would be above MaxNum: it may not be.
func TestBidAtTheEndOfTime(t *testing.T) {
	for d := 1; d <= 4; d++ {
		w := begin(t, 2, d, 900)
		w.s = chain.New(0, 1<<40-8*d-8)
		b := w.bids(t, ask(0, "a", 9))
		if b.Until != 1<<40 {
			t.Errorf("d %d: Until %d", d, b.Until)
		}
		w.hears(t, ask(0, "b", 9))
		w.s.Rise(1)
		for range 2 {
			w.sends(t, "it is late")
			w.s.Rise(500)
		}
		if len(w.r.Bids()) != 1 || w.r.Down() {
			t.Errorf("d %d: %#v", d, w.r.Bids())
		}
	}
}

// P21.1, Look: what takes a bid is mirrored: all fields; and it is prepared on the receiving side.
func TestMirrors(t *testing.T) {
	for router := 2; router <= 3; router++ {
		for n := range 16 {
			for _, d := range []int{n%4 + 1, []int{-9, 0, 5, math.MaxInt}[n%4]} {
				delay := min(max(d, 1), 4)
				w := begin(t, router, d, 1<<16)
				w.t.Rise(300 * (n % 3))
				w.s.Rise(n)
				a := api.Ask{User: n % 2, Send: n / 2 % 2, Recv: n / 4 % 2, To: n % 8, Amount: wide.Of(310), Id: "sixteen octets.."}
				b := w.bids(t, a)
				m := w.takes(t, b, delay)
				offer := map[int]uint64{2: 310, 3: 309}[router]
				want := Mirror{
					Inv:   api.Inv{User: n % 2, Root: rootOf("user" + string(rune(n%2))), Router: router, Send: n / 2 % 2, Recv: n / 4 % 2, To: n % 8, Id: "sixteen octets.."},
					Var:   api.Var{Amount: wide.Of(offer), Expiry: 1000 + 300*(n%3) + 8*delay + 4},
					Far:   api.Var{Amount: wide.Of(310), Expiry: 1000 + n + 16*delay + 12},
					Offer: wide.Of(offer),
				}
				if m != want {
					t.Fatalf("%#v, want %#v", m, want)
				}
				w.sends(t, "it is mirrored", prepares(2, want))
				if got := w.r.Mirrors(); !slices.Equal(got, []Mirror{want}) {
					t.Errorf("Mirrors() = %#v; want %#v", got, want)
				}
				w.restarts(t)
				if got := w.r.Mirrors(); !slices.Equal(got, []Mirror{want}) || !slices.Equal(w.r.Bids(), []api.Bid{b}) {
					t.Errorf("behind a fall: Mirrors() = %#v", got)
				}
				w.rise(3)
				w.sends(t, "it is prepared as it was mirrored", prepares(2, want))
				w.submit(t, prepares(2, want))
				w.sends(t, "it is prepared")
				if got := w.r.Mirrors(); !slices.Equal(got, []Mirror{want}) {
					t.Errorf("Mirrors() = %#v", got)
				}
			}
		}
	}
}

// P21.2: only what a bid matches is mirrored: each field alone unlike.
func TestMirrorMatches(t *testing.T) {
	for name, set := range map[string]func(*api.Tx){
		"User":                 func(x *api.Tx) { x.Inv.User, x.From = 1, 1 },
		"Router":               func(x *api.Tx) { x.Inv.Router = 3 },
		"Send":                 func(x *api.Tx) { x.Inv.Send = 1 },
		"Recv":                 func(x *api.Tx) { x.Inv.Recv = 0 },
		"To":                   func(x *api.Tx) { x.Inv.To = 6 },
		"Id":                   func(x *api.Tx) { x.Inv.Id = "A" },
		"a longer Id":          func(x *api.Tx) { x.Inv.Id = "a\x00" },
		"more":                 func(x *api.Tx) { x.Var.Amount = wide.Of(201) },
		"less":                 func(x *api.Tx) { x.Var.Amount = wide.Of(199) },
		"the offer":            func(x *api.Tx) { x.Var.Amount = wide.Of(198) },
		"another bid's amount": func(x *api.Tx) { x.Var.Amount = wide.Of(70) },
	} {
		w := begin(t, 2, 2, 1<<16)
		b := w.bids(t, ask(0, "a", 200))
		w.bids(t, ask(1, "b", 70))
		x := taken(b, 1044)
		// Of another Root it is another transfer, whatever else is alike.
		x.Inv.Root = rootOf("user\x01")
		set(&x)
		w.must(t, 0, x)
		w.sends(t, name+" is another")
		w.must(t, 0, taken(b, 1044))
		if _, l := w.r.Look(w.s, w.t); len(l) != 1 || len(w.r.Mirrors()) != 1 || l[0].Tx.Inv != taken(b, 1044).Inv {
			t.Errorf("%s: what matches is mirrored beside it: %#v", name, l)
		}
	}
}

// P21.2: what the other router bid is not this one's.
func TestMirrorOwnBids(t *testing.T) {
	w := begin(t, 2, 1, 900)
	for router := 2; router <= 3; router++ {
		w.must(t, 0, taken(api.Bid{Router: router, Ask: ask(0, "a", 100), Amount: wide.Of(100)}, 1028))
	}
	w.sends(t, "it did not bid")
	w.hears(t, ask(0, "a", 100))
	messages, sends := w.r.Look(w.s, w.t)
	if len(messages) != 1 || len(sends) != 1 || sends[0].Tx.Inv.Router != 2 {
		t.Errorf("what was prepared ahead of the bid is mirrored: %#v", sends)
	}
}

// P21.1, Look: only while it is prepared on the sending side is a transfer mirrored.
func TestMirrorPreparedStill(t *testing.T) {
	for _, kind := range []int{5, 6} {
		w := begin(t, 2, 1, 900)
		m := w.takes(t, w.bids(t, ask(0, "a", 100)), 1)
		x := api.Tx{From: 2, Kind: kind, Inv: m.Inv, Var: m.Far, Fee: wide.Of(1)}
		if kind == 5 {
			x.Sig = signature(m.Inv, 1, 1, 0)
		}
		w.must(t, 0, x)
		w.sends(t, "it is not prepared any more")
		if len(w.r.Mirrors()) != 0 {
			t.Errorf("%#v", w.r.Mirrors())
		}
	}
	w := begin(t, 2, 1, 900)
	b := w.bids(t, ask(0, "a", 100))
	x := taken(b, 1028)
	if !w.s.Submit(x) {
		t.Fatal("it may not be")
	}
	w.sends(t, "it waits yet")
	w.must(t, 0, api.Tx{From: 1, Kind: 1, Amount: wide.Of(1)})
	include(w.s)
	if _, l := w.r.Look(w.s, w.t); len(l) != 1 {
		t.Errorf("it is included: %#v", l)
	}
}

// P21.1, Look: what reverted is not mirrored.
func TestMirrorReverted(t *testing.T) {
	w := begin(t, 2, 1, 900)
	b := w.bids(t, ask(0, "a", 300))
	w.must(t, 0, api.Tx{From: 0, Kind: 1, Amount: wide.Of(900), Inv: api.Inv{To: 7}})
	if err := w.put(0, taken(b, 1028)); err != api.ErrFunds {
		t.Fatalf("it is taken: %d", err)
	}
	w.sends(t, "it reverted")
	w.must(t, 0, api.Tx{From: 7, Kind: 1, Amount: wide.Of(300)})
	w.takes(t, b, 1)
	if _, l := w.r.Look(w.s, w.t); len(l) != 1 || len(w.r.Mirrors()) != 1 {
		t.Errorf("it is prepared then: %#v", l)
	}
}

// P21.1, Look: a transfer is mirrored while its Expiry is Short and 3 d and 2 above the sending side's time, whatever the receiving side's is.
func TestMirrorTime(t *testing.T) {
	for d, least := range map[int]int{1: 17, 2: 28, 3: 39, 4: 50} {
		for left := least - 3; left <= least+2; left++ {
			for _, ahead := range []int{0, 3, 500} {
				w := begin(t, 2, d, 900)
				w.t.Rise(ahead)
				b := w.bids(t, ask(0, "a", 100))
				w.must(t, 0, taken(b, 1000+60))
				w.s.Rise(60 - left)
				_, l := w.r.Look(w.s, w.t)
				if want := left >= least; len(l) == 1 != want || len(w.r.Mirrors()) == 1 != want {
					t.Errorf("d %d, %d left: %#v", d, left, l)
				}
			}
		}
	}
}

// P21.1, Look: a bid's Until does not end what takes it.
func TestMirrorBehindUntil(t *testing.T) {
	w := begin(t, 2, 1, 900)
	b := w.bids(t, ask(0, "a", 100))
	w.rise(17)
	if b.Until != 1016 {
		t.Fatalf("Until %d", b.Until)
	}
	m := w.takes(t, b, 1)
	w.sends(t, "it is past its Until", prepares(2, m))
}

// P21.1, Look: nothing is mirrored of which something is on the receiving side already, prepared, fulfilled or cancelled.
func TestMirrorNothingThere(t *testing.T) {
	for kind := 4; kind <= 6; kind++ {
		w := begin(t, 2, 1, 900)
		m := w.takes(t, w.bids(t, ask(0, "a", 100)), 1)
		m.Var.Amount = wide.Of(5)
		w.must(t, 1, prepares(0, m).Tx)
		if kind > 4 {
			x := released(m, 4, 1, 0)
			if kind == 6 {
				x = api.Tx{From: 4, Kind: 6, Inv: m.Inv, Var: m.Var, Sig: signature(m.Inv, 2, 0, 0)}
			}
			w.must(t, 1, x)
		}
		for range 2 {
			w.sends(t, "it is there")
			w.rise(20)
		}
		if len(w.r.Mirrors()) != 0 {
			t.Errorf("kind %d: %#v", kind, w.r.Mirrors())
		}
	}
}

// P21.1, Look: a transfer is mirrored if the vault has as much as the bid, and the router 4 coins on both sides.
func TestMirrorFunds(t *testing.T) {
	for name, c := range map[string]struct {
		side   int
		kind   int
		asset  int
		leaves map[uint64]bool
	}{
		"vault":                  {1, 3, 1, map[uint64]bool{0: false, 98: false, 99: true, 100: true, 399: true}},
		"the other asset's":      {1, 3, 0, map[uint64]bool{0: true, 99: true}},
		"coins":                  {0, 1, 0, map[uint64]bool{0: false, 1: false, 3: false, 4: true, 5: true}},
		"coins there":            {1, 1, 0, map[uint64]bool{0: false, 1: false, 3: false, 4: true, 5: true}},
		"no coins of the side":   {0, 1, 1, map[uint64]bool{0: true, 3: true}},
		"no coins of that there": {1, 1, 1, map[uint64]bool{0: true, 3: true}},
	} {
		for leave, want := range c.leaves {
			w := begin(t, 3, 1, 900)
			b := w.bids(t, ask(0, "a", 99))
			w.takes(t, b, 1)
			state := w.side(c.side).State()
			have, _ := wide.Small(state.Purse.Of(3, c.asset))
			if c.kind == 3 {
				have = 400
			} else if c.asset == 0 {
				have--
			}
			w.must(t, c.side, api.Tx{From: 3, Kind: c.kind, Asset: c.asset, Amount: wide.Of(have - leave), Inv: api.Inv{To: 7}})
			_, l := w.r.Look(w.s, w.t)
			if len(l) == 1 != want || len(w.r.Mirrors()) == 1 != want {
				t.Errorf("%s of %d: %#v", name, leave, l)
			}
			if !want {
				w.must(t, 1, api.Tx{From: 6, Kind: 2, Asset: 1, Amount: wide.Of(99), Inv: api.Inv{Router: 3}})
				w.must(t, c.side, api.Tx{From: 6, Kind: 1, Asset: 0, Amount: wide.Of(4), Inv: api.Inv{To: 3}})
				if _, l := w.r.Look(w.s, w.t); len(l) != 1 {
					t.Errorf("%s of %d, and more later: %#v", name, leave, l)
				}
			}
		}
	}
}

// P21.1, Look: the vault is asked for each bid alone, as the chapter says; what it has not reverts.
func TestMirrorsOfOneVault(t *testing.T) {
	w := begin(t, 2, 1, 1<<16)
	first := w.bids(t, ask(0, "a", 300))
	w.rise(17)
	second := w.bids(t, ask(1, "b", 300))
	one, two := w.takes(t, first, 1), w.takes(t, second, 1)
	w.sends(t, "both are mirrored", prepares(2, one), prepares(3, two))
	w.submit(t, prepares(2, one), prepares(3, two))
	if escrow.Status(w.t.State(), deal.Key(one.Inv)) != 1 || escrow.Status(w.t.State(), deal.Key(two.Inv)) != 0 {
		t.Error("there is no room for both")
	}
	w.sends(t, "once more", prepares(4, two))
}

// P21.1, Look: transfers of one bid by unlike roots are mirrored each, in the order in which they were prepared.
func TestMirrorsOfOneBid(t *testing.T) {
	w := begin(t, 2, 1, 1<<16)
	w.bids(t, ask(1, "z", 7))
	b := w.bids(t, ask(0, "a", 100))
	one, two := taken(b, 1028), taken(b, 1029)
	two.Inv.Root = rootOf("user\x01")
	w.must(t, 0, two)
	w.must(t, 0, one)
	_, l := w.r.Look(w.s, w.t)
	m := w.r.Mirrors()
	if len(m) != 2 || m[0].Inv != two.Inv || m[1].Inv != one.Inv || m[0].Far.Expiry != 1029 || m[1].Far.Expiry != 1028 {
		t.Fatalf("Mirrors() = %#v", m)
	}
	if !slices.Equal(l, []api.Send{prepares(2, m[0]), prepares(3, m[1])}) {
		t.Errorf("Look() = %#v", l)
	}
	w.restarts(t)
	if !slices.Equal(w.r.Mirrors(), m) {
		t.Errorf("behind a fall: %#v", w.r.Mirrors())
	}
}

// P21.1, Look: a mirror is sent while nothing of it is there and none waits, twice from each start on.
func TestSentTwice(t *testing.T) {
	w := begin(t, 2, 1, 900)
	m := w.takes(t, w.bids(t, ask(0, "a", 100)), 1)
	w.sends(t, "first", prepares(2, m))
	w.sends(t, "once more", prepares(2, m))
	for range 3 {
		w.sends(t, "not a third time")
	}
	w.restarts(t)
	w.sends(t, "first behind a start", prepares(2, m))
	w.t.Submit(prepares(2, m).Tx)
	for range 3 {
		w.sends(t, "it waits")
	}
	w.restarts(t)
	w.sends(t, "it waits from before the start")
	include(w.t)
	w.sends(t, "it is there")
}

// P21.1, Look: what waits is another's, of another kind, or of another transfer: it is sent nevertheless.
func TestOthersWait(t *testing.T) {
	for name, set := range map[string]func(*api.Tx){
		"sender":   func(x *api.Tx) { x.From = 3 },
		"kind":     func(x *api.Tx) { x.Kind, x.Nonce = 6, 9 },
		"transfer": func(x *api.Tx) { x.Inv.Id, x.Nonce = "b", 9 },
	} {
		w := begin(t, 2, 1, 900)
		m := w.takes(t, w.bids(t, ask(0, "a", 100)), 1)
		other := prepares(2, m).Tx
		set(&other)
		if !w.t.Submit(other) || !w.s.Submit(prepares(2, m).Tx) {
			t.Fatalf("%s: it may not be", name)
		}
		w.sends(t, name, prepares(2, m))
	}
}

// P21.1, Look: a mirror is sent up to just below its Expiry, at the receiving side's time.
func TestSentAheadOfExpiry(t *testing.T) {
	for rise, want := range map[int]int{0: 1, 11: 1, 12: 0, 13: 0, 500: 0} {
		w := begin(t, 2, 1, 900)
		m := w.takes(t, w.bids(t, ask(0, "a", 100)), 1)
		w.sends(t, "first", prepares(2, m))
		w.t.Rise(rise)
		w.s.Rise(40)
		if _, l := w.r.Look(w.s, w.t); len(l) != want {
			t.Errorf("%d behind: %#v", rise, l)
		}
	}
}

// P21.1, Look: what the user's signature fulfilled is brought to the sending side.
func TestBrings(t *testing.T) {
	for fee := range uint64(3) {
		for from, leaf := range map[int]int{0: 0, 4: 7, 7: 3} {
			w := begin(t, 3, 1, 900)
			m := w.mirrors(t, ask(0, "a", 300))
			for range 3 {
				w.sends(t, "it is prepared on both sides")
			}
			x := released(m, from, fee, leaf)
			w.must(t, 1, x)
			for range 3 {
				w.sends(t, "it is fulfilled", brings(0, m, x))
			}
			w.restarts(t)
			w.sends(t, "it is fulfilled, and started again", brings(0, m, x))
			w.s.Submit(brings(0, m, x).Tx)
			w.sends(t, "it waits")
			include(w.s)
			w.sends(t, "it is fulfilled on both sides")
			if got := w.s.State().Vault.Of(3, 0); got != wide.Of(300) {
				t.Errorf("it has %v", got)
			}
			w.rise(200)
			w.sends(t, "it is over")
		}
	}
}

// P21.1, Look: of what was tried the first that fulfilled tells the signature.
func TestBringsWhatFulfilled(t *testing.T) {
	w := begin(t, 2, 1, 900)
	m := w.mirrors(t, ask(1, "a", 300))
	for _, set := range []func(*api.Tx){
		func(x *api.Tx) { x.Fee = wide.Of(7) },
		func(x *api.Tx) { x.Sig = "none" },
		func(x *api.Tx) { x.Var.Expiry++ },
		func(x *api.Tx) { x.Kind, x.Sig = 6, "none" },
	} {
		x := released(m, 4, 1, 0)
		set(&x)
		if err := w.put(1, x); err == api.OK {
			t.Fatalf("it is done: %#v", x)
		}
	}
	w.sends(t, "all reverted")
	x := released(m, 1, 2, 5)
	w.must(t, 1, x)
	if err := w.put(1, released(m, 4, 1, 6)); err != api.ErrStatus {
		t.Fatal(err)
	}
	w.sends(t, "the first tells", brings(0, m, x))
}

// P21.1, Look: it is brought while it is prepared on the sending side, also when that is past, or it reverted; not when it is cancelled there.
func TestBringsLate(t *testing.T) {
	w := begin(t, 2, 1, 900)
	m := w.mirrors(t, ask(0, "a", 300))
	x := released(m, 4, 1, 0)
	w.must(t, 1, x)
	w.rise(27)
	w.sends(t, "just not past", brings(0, m, x))
	w.rise(1)
	w.sends(t, "past", brings(0, m, x))
	w.submit(t, brings(0, m, x))
	w.sends(t, "it reverted", brings(1, m, x))
	w.must(t, 0, api.Tx{From: 0, Kind: 6, Inv: m.Inv, Var: m.Far})
	w.sends(t, "it is cancelled")
}

// P21.1, Look: what waits on the sending side is another's, of another kind or transfer, or waits on the other side.
func TestBringsThoughOthersWait(t *testing.T) {
	for name, set := range map[string]func(*api.Tx){
		"sender":   func(x *api.Tx) { x.From = 4 },
		"kind":     func(x *api.Tx) { x.Kind, x.Nonce = 6, 9 },
		"transfer": func(x *api.Tx) { x.Inv.Id, x.Nonce = "b", 9 },
	} {
		w := begin(t, 2, 1, 900)
		m := w.mirrors(t, ask(0, "a", 300))
		x := released(m, 4, 1, 0)
		w.must(t, 1, x)
		other := brings(0, m, x).Tx
		set(&other)
		if !w.s.Submit(other) || !w.t.Submit(brings(0, m, x).Tx) {
			t.Fatalf("%s: it may not be", name)
		}
		w.sends(t, name, brings(0, m, x))
	}
}

// P21.1, Look: what is prepared on the receiving side is cancelled there when it is past, at that side's time.
func TestTakesBack(t *testing.T) {
	w := begin(t, 2, 1, 900)
	m := w.mirrors(t, ask(0, "a", 300))
	w.s.Rise(500)
	w.t.Rise(11)
	w.sends(t, "just not past")
	w.t.Rise(1)
	for range 3 {
		w.sends(t, "past", cancels(3, m))
	}
	w.restarts(t)
	w.sends(t, "past, and started again", cancels(3, m))
	w.t.Submit(cancels(3, m).Tx)
	w.sends(t, "it waits")
	include(w.t)
	w.sends(t, "it is back")
	if got := w.t.State().Vault.Of(2, 1); got != wide.Of(400) {
		t.Errorf("the vault has %v", got)
	}
	w.t.Rise(100)
	w.restarts(t)
	w.sends(t, "it is over")
}

// P21.1, Look: who else cancels, it is over: neither prepared again, nor cancelled.
func TestTakenBackEarly(t *testing.T) {
	w := begin(t, 2, 1, 900)
	m := w.mirrors(t, ask(0, "a", 300))
	w.must(t, 1, api.Tx{From: 4, Kind: 6, Inv: m.Inv, Var: m.Var, Sig: signature(m.Inv, 2, 0, 0)})
	for range 3 {
		w.sends(t, "it is cancelled")
		w.restarts(t)
		w.rise(20)
	}
}

// P21.1, Look: of others' transactions none is this one's that waits.
func TestTakesBackThoughOthersWait(t *testing.T) {
	for name, set := range map[string]func(*api.Tx){
		"sender":   func(x *api.Tx) { x.From, x.Nonce = 4, 5 },
		"kind":     func(x *api.Tx) { x.Kind, x.Nonce = 4, 9 },
		"transfer": func(x *api.Tx) { x.Inv.Id, x.Nonce = "b", 9 },
	} {
		w := begin(t, 2, 1, 900)
		m := w.mirrors(t, ask(0, "a", 300))
		w.t.Rise(12)
		other := cancels(3, m).Tx
		set(&other)
		if !w.t.Submit(other) || !w.s.Submit(cancels(3, m).Tx) {
			t.Fatalf("%s: it may not be", name)
		}
		w.sends(t, name, cancels(3, m))
	}
}

// P21.1, Look: each side's Nonces go on, behind those that wait; first all bids, then what is sent, in the order of mirrors.
func TestNonces(t *testing.T) {
	w := begin(t, 2, 4, 1<<16)
	paid, late := w.mirrors(t, ask(0, "a", 40)), w.mirrors(t, ask(1, "b", 41))
	paid2 := w.mirrors(t, ask(0, "c", 42))
	x, x2 := released(paid, 4, 1, 0), released(paid2, 4, 1, 1)
	w.must(t, 1, x2)
	w.must(t, 1, x)
	w.t.Rise(36)
	fresh := w.takes(t, w.bids2(t, ask(1, "d", 43)), 4)
	w.hears(t, ask(1, "e", 44))
	// Of its own, 1 waits on the sending side, and 6 on the receiving one: neither can be included yet.
	for side, nonce := range []int{1, 6} {
		if !w.side(side).Submit(api.Tx{From: 2, Nonce: nonce, Kind: 1, Amount: wide.Of(1)}) || !w.side(side).Submit(api.Tx{From: 3, Nonce: nonce - 1, Kind: 1, Amount: wide.Of(1)}) {
			t.Fatal("it may not be")
		}
	}
	messages, sends := w.r.Look(w.s, w.t)
	want := []api.Send{brings(0, paid, x), cancels(5, late), brings(2, paid2, x2), prepares(7, fresh)}
	if !slices.Equal(sends, want) || len(messages) != 1 || messages[0].Bid.Ask.Id != "e" {
		t.Errorf("Look() =\n%#v\n%#v; want\n%#v", messages, sends, want)
	}
}

// bids2 lets the router bid for an ask, whatever else it does.
func (w *town) bids2(t *testing.T, a api.Ask) api.Bid {
	t.Helper()
	w.hears(t, a)
	w.r.Look(w.s, w.t)
	l := w.r.Bids()
	if l[len(l)-1].Ask != a {
		t.Fatalf("it does not bid for %#v", a)
	}
	return l[len(l)-1]
}

// P21.1, Fall: of the records' octets the first keep last: a beginning of the records; nothing is sent.
func TestFall(t *testing.T) {
	for keep := -2; keep < 320; keep++ {
		w := begin(t, 2, 1, 900)
		w.takes(t, w.bids(t, ask(0, "ab", 50)), 1)
		w.hears(t, ask(0, "cd", 51), ask(1, "ef", 52))
		states := fmt.Sprintf("%#v %#v %v %v", w.s.State(), w.t.State(), w.s.Pool(), w.t.Pool())
		w.r.Fall(w.s, w.t, keep)
		if !w.r.Down() || states != fmt.Sprintf("%#v %#v %v %v", w.s.State(), w.t.State(), w.s.Pool(), w.t.Pool()) {
			t.Fatal("it is not down, or something was sent")
		}
		// Each bid has 110 octets, the mirror 40.
		bids, mirrors := 1, 0
		if keep >= 110 {
			bids++
		}
		if keep >= 220 {
			bids++
		}
		if keep >= 260 {
			mirrors++
		}
		if len(w.r.Bids()) != bids || len(w.r.Mirrors()) != mirrors {
			t.Fatalf("keep %d: %s", keep, told(w.r))
		}
		before := told(w.r)
		if m, l := w.r.Look(w.s, w.t); len(m)+len(l) != 0 {
			t.Errorf("it is down, and sends %#v, %#v", m, l)
		}
		w.r.Fall(w.s, w.t, 0)
		w.r.Fall(nil, nil, 1<<20)
		if told(w.r) != before {
			t.Errorf("what lasted is sure: %s", told(w.r))
		}
		w.r.Up()
		m, l := w.r.Look(w.s, w.t)
		if len(m) != 0 || len(l) != 1 || len(w.r.Bids()) != bids || len(w.r.Mirrors()) != 1 {
			t.Errorf("keep %d: behind the start: %#v, %#v", keep, m, l)
		}
		w.reuses(t, bids)
	}
}

// reuses tells it, if the next bid is not signed with that leaf.
func (w *town) reuses(t *testing.T, leaf int) {
	t.Helper()
	w.hears(t, ask(1, "next", 5))
	m, _ := w.r.Look(w.s, w.t)
	if len(m) != 1 || mss.Leaf(m[0].Bid.Sig) != leaf || !bid.Valid(m[0].Bid, rootOf("router\x02")) {
		t.Errorf("it bids %#v, want leaf %d", m, leaf)
	}
}

// P21.1: where there is no room for all records the router is down, nothing is sent, and it knows what the journal tells, and no ask.
func TestNoRoom(t *testing.T) {
	for room := -1; room < 300; room++ {
		w := begin(t, 2, 1, room)
		w.hears(t, ask(0, "ab", 50))
		m, l := w.r.Look(w.s, w.t)
		if fits := room >= 110; w.r.Down() == fits || len(w.r.Bids()) == 1 != fits || len(m) == 1 != fits || len(l) != 0 {
			t.Fatalf("room %d: %#v, %#v", room, m, l)
		}
		if room < 110 {
			w.empty(t, ask(0, "ab", 50))
			continue
		}
		w.takes(t, w.r.Bids()[0], 1)
		w.hears(t, ask(1, "cd", 60))
		m, l = w.r.Look(w.s, w.t)
		if fits := room >= 260; w.r.Down() == fits || len(m) == 1 != fits || len(l) == 1 != fits || len(w.r.Mirrors()) == 1 != fits || len(w.r.Bids()) == 2 != fits {
			t.Fatalf("room %d: %#v, %#v", room, m, l)
		}
		if room < 260 {
			w.empty(t, ask(1, "cd", 60))
			// Without the ask there is room for the mirror from 150 on.
			_, l = w.r.Look(w.s, w.t)
			if fits := room >= 150; w.r.Down() == fits || len(l) == 1 != fits || len(w.r.Mirrors()) == 1 != fits {
				t.Fatalf("room %d: %#v", room, l)
			}
		}
	}
}

// empty starts a router that is down, and tells it, if it knows an ask yet.
func (w *town) empty(t *testing.T, a api.Ask) {
	t.Helper()
	before := w.r.Bids()
	if w.r.Hear(put(t, api.Message{Kind: 1, Ask: a})) {
		t.Fatal("it is down, and hears")
	}
	if err := w.r.Up(); err != api.OK {
		t.Fatal(err)
	}
	if m, _ := w.r.Look(nil, nil); len(m) != 0 || w.r.Down() || !slices.Equal(w.r.Bids(), before) {
		t.Fatalf("it knows an ask yet: %#v", m)
	}
}

// P21.1: a full journal is no hindrance, where nothing is to be recorded.
func TestFullJournal(t *testing.T) {
	w := begin(t, 2, 1, 150)
	m := w.mirrors(t, ask(0, "ab", 50))
	w.t.Rise(12)
	for range 2 {
		w.sends(t, "it is past", cancels(3, m))
	}
	if w.r.Down() {
		t.Error("it is down")
	}
}

// P21.1, Fall: where there is no room for all records none lasts.
func TestFallWithoutRoom(t *testing.T) {
	for room, want := range map[int]int{0: 0, 110: 0, 219: 0, 220: 2, 1 << 16: 2, 1 << 20: 2} {
		w := begin(t, 3, 1, room)
		w.hears(t, ask(0, "ab", 50), ask(0, "cd", 50))
		w.r.Fall(w.s, w.t, 1<<20)
		if got := len(w.r.Bids()); got != want || !w.r.Down() {
			t.Errorf("room %d: %d bids", room, got)
		}
	}
}

// P21.1, Up: ErrState, if it is not down; down it tells what it knows.
func TestUp(t *testing.T) {
	w := begin(t, 2, 1, 900)
	m := w.mirrors(t, ask(0, "a", 50))
	b := w.r.Bids()
	for range 2 {
		if err := w.r.Up(); err != api.ErrState || w.r.Down() {
			t.Errorf("Up() = %d", err)
		}
		w.r.Fall(w.s, w.t, 0)
		if !w.r.Down() || !slices.Equal(w.r.Mirrors(), []Mirror{m}) || !slices.Equal(w.r.Bids(), b) {
			t.Errorf("down it tells %s", told(w.r))
		}
		if err := w.r.Up(); err != api.OK || w.r.Down() {
			t.Errorf("Up() = %d", err)
		}
		if !slices.Equal(w.r.Mirrors(), []Mirror{m}) || !slices.Equal(w.r.Bids(), b) {
			t.Errorf("up it tells %s", told(w.r))
		}
	}
}

// P21.1, P1: of one that nobody made.
func TestNobodyMade(t *testing.T) {
	var zero Router
	for name, r := range map[string]*Router{"nil": nil, "zero": &zero, "new": new(Router)} {
		w := begin(t, 2, 1, 900)
		w.mirrors(t, ask(0, "a", 50))
		for range 2 {
			if r.Hear(put(t, api.Message{Kind: 1, Ask: ask(0, "b", 50)})) || r.Hear(nil) {
				t.Errorf("%s: Hear is true", name)
			}
			for _, s := range []*chain.Chain{w.s, w.t, nil} {
				if m, l := r.Look(s, w.t); len(m)+len(l) != 0 {
					t.Errorf("%s: Look = %#v, %#v", name, m, l)
				}
				for _, n := range numbers() {
					r.Fall(s, w.t, n)
				}
			}
			if err := r.Up(); err != api.ErrState || !r.Down() {
				t.Errorf("%s: Up = %d, down %t", name, err, r.Down())
			}
			if len(r.Bids())+len(r.Mirrors()) != 0 {
				t.Errorf("%s: it tells something", name)
			}
		}
		if r != nil && !reflect.DeepEqual(*r, Router{}) {
			t.Errorf("%s: something was told to it", name)
		}
	}
}

// spoil writes over all of a list, as far as it has room.
func spoil[T any](l []T, with T) {
	rest := l[:cap(l)]
	for place := range rest {
		rest[place] = with
	}
}

// P21.3: answers are new memory; what is handed in is not kept, and not changed.
func TestMemory(t *testing.T) {
	w := begin(t, 2, 1, 1<<16)
	octets := put(t, api.Message{Kind: 1, Ask: ask(0, "a", 50)})
	if !w.r.Hear(octets) {
		t.Fatal("it is not kept")
	}
	spoil(octets, 'x')
	if got := w.tells(t); !slices.Equal(got, []api.Ask{ask(0, "a", 50)}) {
		t.Errorf("what was handed in is kept: %#v", got)
	}
	w.takes(t, w.r.Bids()[0], 1)
	second := w.bids2(t, ask(1, "b", 51))
	w.takes(t, second, 1)
	w.hears(t, ask(0, "c", 52))
	states := fmt.Sprintf("%#v %#v %v %v", w.s.State(), w.t.State(), w.s.Pool(), w.t.Pool())
	messages, sends := w.r.Look(w.s, w.t)
	if len(sends) != 2 || len(messages) != 1 {
		t.Fatalf("%#v, %#v", messages, sends)
	}
	if states != fmt.Sprintf("%#v %#v %v %v", w.s.State(), w.t.State(), w.s.Pool(), w.t.Pool()) {
		t.Error("a look changed a side")
	}
	want := told(w.r)
	bids, mirrors := w.r.Bids(), w.r.Mirrors()
	keptBids, keptMirrors := slices.Clone(bids), slices.Clone(mirrors)
	spoil(sends, api.Send{Side: 9})
	spoil(messages, api.Message{Kind: 9})
	spoil(w.r.Bids(), api.Bid{Router: 9})
	spoil(w.r.Mirrors(), Mirror{})
	if told(w.r) != want || !slices.Equal(bids, keptBids) || !slices.Equal(mirrors, keptMirrors) {
		t.Error("answers share memory with the router, or with each other")
	}
	bids, mirrors = append(bids, api.Bid{Router: 7}), append(mirrors, Mirror{Offer: wide.Of(7)})
	w.bids2(t, ask(0, "d", 53))
	w.takes(t, w.r.Bids()[3], 1)
	w.r.Look(w.s, w.t)
	if bids[3].Router != 7 || mirrors[2].Offer != wide.Of(7) || !slices.Equal(bids[:3], keptBids) || !slices.Equal(mirrors[:2], keptMirrors) {
		t.Error("what was told changed an answer")
	}
	if len(w.r.Mirrors()) != 3 || len(w.r.Bids()) != 4 || w.r.Bids()[3].Router != 2 {
		t.Errorf("an answer changed what it knows: %s", told(w.r))
	}
}

// P1: no call panics, whatever it is given.
func TestOdd(t *testing.T) {
	for _, n := range numbers() {
		w := begin(t, 3, n, 1<<16)
		w.hears(t, ask(0, "a", 50), ask(1, "b", 1<<63))
		for _, s := range []*chain.Chain{nil, {}, w.s, w.t, chain.New(0, n), chain.New(1, n), chain.New(0, 1<<40)} {
			for _, x := range []*chain.Chain{nil, {}, w.s, w.t, chain.New(1, n), s} {
				w.r.Look(s, x)
			}
		}
		w.takes(t, w.bids2(t, ask(1, "c", 50)), 1)
		for _, s := range []*chain.Chain{nil, {}, w.s, w.t} {
			w.r.Look(s, w.t)
			w.r.Look(w.s, s)
			w.r.Look(s, s)
		}
		w.r.Fall(nil, nil, n)
		w.r.Up()
		w.r.Fall(w.s, w.t, n)
		if !w.r.Down() || w.r.Up() != api.OK {
			t.Error("it is not down")
		}
	}
}

// P21.1, Look: a mirror at the last time of all is made, though no side takes it.
func TestLastTime(t *testing.T) {
	w := begin(t, 2, 4, 900)
	w.t.Rise(1 << 40)
	m := w.takes(t, w.bids(t, ask(0, "a", 50)), 4)
	x := prepares(2, m)
	if m.Var.Expiry != 1<<40+36 {
		t.Fatalf("%#v", m)
	}
	w.sends(t, "it is mirrored", x)
	before := told(w.r)
	w.restarts(t)
	if told(w.r) != before || w.t.Submit(x.Tx) {
		t.Errorf("behind a fall: %s", told(w.r))
	}
}

// P3: routers know nothing of each other; the same again answers the same, also side by side.
func TestSideBySide(t *testing.T) {
	octets, second := put(t, api.Message{Kind: 1, Ask: ask(0, "a", 100)}), begin(t, 3, 1, 900)
	answers := make(chan string)
	for range 4 {
		go func() {
			w := begin(t, 2, 1, 900)
			w.r.Hear(octets)
			m, _ := w.r.Look(w.s, w.t)
			w.put(0, api.Tx{From: 0, Kind: 4, Inv: transferOf(m[0].Bid, "01234567"), Var: api.Var{Amount: wide.Of(100), Expiry: 1030}})
			_, l := w.r.Look(w.s, w.t)
			w.r.Fall(w.s, w.t, 5)
			answers <- fmt.Sprintf("%#v %#v %s", m, l, told(w.r))
		}()
	}
	want := <-answers
	for range 3 {
		if <-answers != want {
			t.Error("answers differ when calls run side by side")
		}
	}
	if len(second.r.Bids()) != 0 || second.r.Down() {
		t.Error("another router bid, too")
	}
}

// Example 1 of the whole: a user and both routers trade 100; the receiver has 99, and the better router is paid.
func TestTradeWithUser(t *testing.T) {
	w, other := begin(t, 2, 1, 900), begin(t, 3, 1, 900)
	other.s, other.t = w.s, w.t
	user, err := client.New(0, []string{rootOf("router\x02"), rootOf("router\x03")}, 1, 900)
	if err != api.OK {
		t.Fatal(err)
	}
	a := ask(0, "a", 100)
	m, err := user.Ask(a, w.s.Time())
	if err != api.OK {
		t.Fatal(err)
	}
	for _, r := range []*Router{w.r, other.r} {
		if !r.Hear(put(t, m)) {
			t.Fatal("it is not heard")
		}
	}
	for range 6 {
		for _, r := range []*Router{w.r, other.r} {
			messages, sends := r.Look(w.s, w.t)
			for _, m := range messages {
				if !user.Hear(put(t, m), w.s.Time()) {
					t.Fatal("the bid is not taken")
				}
			}
			w.submit(t, sends...)
		}
		_, sends := user.Look(w.s, w.t)
		w.submit(t, sends...)
		w.rise(1)
	}
	key := deal.Key(user.Deals()[0].Inv)
	if escrow.Status(w.s.State(), key) != 2 || escrow.Status(w.t.State(), key) != 2 {
		t.Fatalf("it is not fulfilled: %#v", user.Deals())
	}
	if to := w.t.State().Purse.Of(5, 1); to != wide.Of(1099) {
		t.Errorf("the receiver has %v", to)
	}
	if got := w.s.State().Vault.Of(2, 0); got != wide.Of(100) || len(other.r.Mirrors()) != 0 || len(w.r.Mirrors()) != 1 {
		t.Errorf("the router has %v", got)
	}
}
