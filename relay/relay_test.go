package relay

import (
	"fmt"
	"math"
	"reflect"
	"slices"
	"testing"

	"narrows/api"
	"narrows/chain"
	"narrows/client"
	"narrows/deal"
	"narrows/escrow"
	"narrows/mail"
	"narrows/mss"
	"narrows/router"
	"narrows/wide"
)

// rootsOf are made once: they take long.
var rootsOf = map[string]string{}

// rootOf is a key's root.
func rootOf(seed string) string {
	if rootsOf[seed] == "" {
		rootsOf[seed] = mss.Root(seed)
	}
	return rootsOf[seed]
}

// numbers are numbers of any size.
func numbers() []int {
	return []int{math.MinInt, -1 << 40, -1, 0, 1, 2, 3, 4, 5, 16, 1000, 1 << 32, 1<<40 - 1, 1 << 40, 1<<40 + 1, math.MaxInt}
}

// transfer is what user 0 sends by router 2; its seed is "user".
func transfer(id string) api.Inv {
	return api.Inv{User: 0, Root: rootOf("user"), Router: 2, Send: 0, Recv: 1, To: 5, Id: id}
}

// until is a side's data: an amount till a time.
func until(amount uint64, expiry int) api.Var {
	return api.Var{Amount: wide.Of(amount), Expiry: expiry}
}

// signs is what the seed's leaf signs of a transfer for an act.
func signs(seed string, leaf int, i api.Inv, act int, fee api.Wide) string {
	sig, _, err := mss.Sign(api.Key{Seed: seed, Next: leaf}, deal.Payload(act, deal.Key(i), fee))
	if err != api.OK {
		panic("mss.Sign")
	}
	return sig
}

// release is a user's, by a leaf of its key.
func release(i api.Inv, v api.Var, fee uint64, leaf int) api.Message {
	return api.Message{Kind: 3, Inv: i, Var: v, Fee: wide.Of(fee), Sig: signs("user", leaf, i, 1, wide.Of(fee))}
}

// put is a message's octets.
func put(t *testing.T, m api.Message) []byte {
	t.Helper()
	b, err := mail.Put(m)
	if err != api.OK {
		t.Fatalf("mail.Put(%#v): %d", m, err)
	}
	return b
}

// sent is what a relayer sends of a release.
func sent(nonce int, m api.Message) api.Send {
	return api.Send{Side: 1, Tx: api.Tx{From: 4, Nonce: nonce, Kind: 5, Inv: m.Inv, Var: m.Var, Fee: m.Fee, Sig: m.Sig}}
}

// town is a relayer, and the receiving side.
type town struct {
	r *Relay
	t *chain.Chain
}

// begin is a relayer and a side at time 1000, on which both routers have 400 of each asset in their vaults.
func begin(t *testing.T) *town {
	t.Helper()
	w := &town{r: New(), t: chain.New(1, 1000)}
	for router := 2; router <= 3; router++ {
		for asset := range 2 {
			w.must(t, api.Tx{From: router, Kind: 2, Asset: asset, Amount: wide.Of(400), Inv: api.Inv{Router: router}})
		}
	}
	return w
}

// put includes a transaction at once, and is what comes of it.
func (w *town) put(x api.Tx) api.Errno {
	return include(w.t, x)
}

// include includes a transaction at once, and is what comes of it.
func include(c *chain.Chain, x api.Tx) api.Errno {
	x.Nonce = c.Next(x.From)
	if !c.Submit(x) {
		return api.ErrKind
	}
	if !c.Include(-1) {
		return api.ErrNone
	}
	l := c.Events(0)
	return l[len(l)-1].Code
}

// must includes a transaction that does not revert.
func (w *town) must(t *testing.T, x api.Tx) {
	t.Helper()
	if err := w.put(x); err != api.OK {
		t.Fatalf("%#v: %d", x, err)
	}
}

// prepares lets the router prepare a transfer.
func (w *town) prepares(t *testing.T, i api.Inv, v api.Var) {
	t.Helper()
	w.must(t, api.Tx{From: i.Router, Kind: 4, Inv: i, Var: v})
}

// hears lets the relayer hear releases that it keeps.
func (w *town) hears(t *testing.T, l ...api.Message) {
	t.Helper()
	for _, m := range l {
		if !w.r.Hear(put(t, m)) {
			t.Fatalf("it is not kept: %#v", m)
		}
	}
}

// sends tells it, if a look sends other than that.
func (w *town) sends(t *testing.T, what string, want ...api.Send) {
	t.Helper()
	if l := w.r.Look(w.t); !slices.Equal(l, want) {
		t.Fatalf("%s: Look() =\n%#v; want\n%#v", what, l, want)
	}
}

// ready is a town in which a transfer of 99 till 1012 is prepared, and released to the relayer.
func ready(t *testing.T) (*town, api.Message) {
	t.Helper()
	w := begin(t)
	m := release(transfer("a"), until(99, 1012), 1, 0)
	w.prepares(t, m.Inv, m.Var)
	w.hears(t, m)
	return w, m
}

// P22.1, the chapter's example: at first nothing is there.
func TestNew(t *testing.T) {
	w := begin(t)
	if w.r == nil || w.r.Count() != 0 {
		t.Fatal("something is there")
	}
	w.prepares(t, transfer("a"), until(99, 1012))
	for range 2 {
		w.sends(t, "nothing was released")
	}
	other := New()
	w.hears(t, release(transfer("a"), until(99, 1012), 1, 0))
	if other.Count() != 0 || w.r.Count() != 1 || New().Count() != 0 || len(other.Look(w.t)) != 0 {
		t.Error("relayers share what they have")
	}
}

// P22.1, Hear: a release's octets are kept, and nothing else.
func TestHear(t *testing.T) {
	w := begin(t)
	count := 0
	hears := func(what string, b []byte, want bool) {
		t.Helper()
		before := slices.Clone(b)
		if got := w.r.Hear(b); got != want {
			t.Errorf("%s: Hear = %t", what, got)
		}
		if want {
			count++
		}
		if !slices.Equal(b, before) || w.r.Count() != count {
			t.Errorf("%s: what was handed in is another, or %d are there", what, w.r.Count())
		}
	}
	m := release(transfer("a"), until(99, 1012), 1, 0)
	first := put(t, m)
	hears("nothing", nil, false)
	hears("an empty list", []byte{}, false)
	hears("too few octets", first[:len(first)-1], false)
	hears("too many octets", append(slices.Clone(first), 0), false)
	hears("without the kind", first[6:], false)
	hears("much", make([]byte, 1<<14), false)
	a := api.Ask{User: 0, Send: 0, Recv: 1, To: 5, Amount: wide.Of(100), Id: "a"}
	hears("an ask", put(t, api.Message{Kind: 1, Ask: a}), false)
	hears("a bid", put(t, api.Message{Kind: 2, Bid: api.Bid{Router: 2, Ask: a, Amount: wide.Of(1)}}), false)
	wrong := slices.Clone(first)
	wrong[5] = 4
	hears("another kind", wrong, false)
	hears("a release", first, true)
	hears("again", first, false)
	free := m
	free.Fee = api.Wide{}
	hears("without a fee", put(t, free), false)
	for name, set := range map[string]func(*api.Message){
		"another user":       func(m *api.Message) { m.Inv.User = 1 },
		"another root":       func(m *api.Message) { m.Inv.Root = "01234567" },
		"another router":     func(m *api.Message) { m.Inv.Router = 3 },
		"another asset":      func(m *api.Message) { m.Inv.Send = 1 },
		"another one":        func(m *api.Message) { m.Inv.Recv = 0 },
		"another receiver":   func(m *api.Message) { m.Inv.To = 4 },
		"another Id":         func(m *api.Message) { m.Inv.Id = "b" },
		"another amount":     func(m *api.Message) { m.Var.Amount[3] = 1 },
		"another Expiry":     func(m *api.Message) { m.Var.Expiry++ },
		"another fee":        func(m *api.Message) { m.Fee[0] = 2 },
		"another signature":  func(m *api.Message) { m.Sig = m.Sig[:144] },
		"no signature":       func(m *api.Message) { m.Sig = "" },
		"a long signature":   func(m *api.Message) { m.Sig = string(make([]byte, 1024)) },
		"all of it is other": func(m *api.Message) { *m = release(transfer("c"), until(1, 0), 7, 3) },
	} {
		other := m
		set(&other)
		hears(name, put(t, other), true)
		hears(name+" again", put(t, other), false)
		hears("the first again", first, false)
	}
}

// P22.1, Hear: what may not be is no release.
func TestHearWrong(t *testing.T) {
	w := begin(t)
	good := put(t, release(transfer("a"), until(99, 1012), 1, 0))
	// Where octets tell of what may not be: the word, User, Router, Send, Recv, To.
	word := 6 + 2
	fields := map[string][]int{"word": {word, 'x'}, "User": {word + 3 + 5, 2}, "Router": {word + 3 + 6 + 10 + 5, 4}, "Send": {word + 3 + 12 + 10 + 5, 2}, "Recv": {word + 3 + 18 + 10 + 5, 2}, "To": {word + 3 + 24 + 10 + 5, 8}}
	for name, at := range fields {
		b := slices.Clone(good)
		b[at[0]] = byte(at[1])
		if w.r.Hear(b) {
			t.Errorf("%s: it is kept", name)
		}
	}
	for octets := range good {
		if w.r.Hear(good[:octets]) || w.r.Hear(good[octets+1:]) {
			t.Errorf("%d octets of it are kept", octets)
		}
	}
	if w.r.Count() != 0 || !w.r.Hear(good) || w.r.Count() != 1 {
		t.Error("what may not be counts")
	}
}

// P22.1, Hear: a fee above 0, in any of its words.
func TestHearFees(t *testing.T) {
	for word := range 4 {
		for _, bit := range []int{0, 1, 31, 63} {
			w := begin(t)
			m := release(transfer("a"), until(99, 1012), 0, 0)
			if w.r.Hear(put(t, m)) {
				t.Fatal("it is kept without a fee")
			}
			m.Fee[word] = 1 << bit
			if !w.r.Hear(put(t, m)) || w.r.Count() != 1 {
				t.Errorf("word %d, bit %d: it is not kept", word, bit)
			}
		}
	}
}

// P22.1, Hear: fewer than 16 are there; none goes, whatever becomes of it.
func TestHearMany(t *testing.T) {
	w := begin(t)
	var want []api.Send
	for n := range 20 {
		i, v := transfer(fmt.Sprint(n)), until(5, 1012)
		w.prepares(t, i, v)
		m := release(i, v, 1, n%8)
		if got := w.r.Hear(put(t, m)); got != (n < 16) {
			t.Errorf("release %d: %t", n, got)
		}
		if w.r.Hear(put(t, m)) || w.r.Count() != min(n+1, 16) {
			t.Errorf("release %d: %d are there", n, w.r.Count())
		}
		if n < 16 {
			want = append(want, sent(n, m))
		}
	}
	w.sends(t, "all sixteen, in order", want...)
	w.must(t, want[0].Tx)
	w.t.Rise(100)
	w.sends(t, "one is done, the others are past")
	if w.r.Hear(put(t, release(transfer("new"), until(5, 2000), 1, 0))) || w.r.Count() != 16 {
		t.Error("what is over makes room")
	}
}

// P22.1, Look: a transaction to fulfil, of the relayer, for the receiving side; it leaves To the amount less the fee.
func TestLook(t *testing.T) {
	w, m := ready(t)
	want := sent(0, m)
	for range 3 {
		w.sends(t, "it is due", want)
	}
	w.t.Submit(want.Tx)
	for range 2 {
		w.sends(t, "it waits")
	}
	if !w.t.Include(0) || escrow.Status(w.t.State(), deal.Key(m.Inv)) != 2 {
		t.Fatal("it is not fulfilled")
	}
	w.sends(t, "it is fulfilled")
	// The relayer burnt a coin, of asset 0, for a fee of asset 1.
	p := w.t.State().Purse
	if p.Of(5, 1) != wide.Of(1098) || p.Of(4, 1) != wide.Of(1001) || p.Of(4, 0) != wide.Of(999) {
		t.Errorf("who has what: %v", p)
	}
	if w.r.Count() != 1 {
		t.Errorf("%d are there", w.r.Count())
	}
}

// P22.1, Look: each, in the order in which they were heard, whatever the order on the side.
func TestOrder(t *testing.T) {
	for _, order := range [][]int{{0, 1, 2, 3}, {3, 2, 1, 0}, {1, 3, 0, 2}} {
		w := begin(t)
		for n := range 3 {
			w.prepares(t, transfer(fmt.Sprint(n)), until(20+uint64(n), 1010+n))
		}
		var want []api.Send
		for _, n := range order {
			// The fourth one is not there.
			m := release(transfer(fmt.Sprint(n)), until(20+uint64(n), 1010+n), 3, n)
			w.hears(t, m)
			if n < 3 {
				want = append(want, sent(len(want), m))
			}
		}
		w.sends(t, fmt.Sprint(order), want...)
	}
}

// P22.1, Look: it is prepared on the receiving side: neither not yet, nor no more, nor elsewhere.
func TestPreparedThere(t *testing.T) {
	w := begin(t)
	i, v := transfer("a"), until(99, 1012)
	m := release(i, v, 1, 0)
	w.hears(t, m)
	w.sends(t, "nothing is there")
	near := chain.New(0, 1000)
	if err := include(near, api.Tx{From: 0, Kind: 4, Inv: i, Var: v}); err != api.OK {
		t.Fatal(err)
	}
	w.sends(t, "it is prepared on the sending side")
	lock := api.Tx{From: 2, Nonce: w.t.Next(2), Kind: 4, Inv: i, Var: v}
	w.t.Submit(lock)
	w.sends(t, "it waits to be prepared")
	w.t.Include(0)
	w.sends(t, "it is prepared", sent(0, m))
	w.t.Rise(12)
	w.must(t, api.Tx{From: 7, Kind: 6, Inv: i, Var: v})
	w.sends(t, "it is cancelled, and past")
}

// P22.1, Look: of what is cancelled ahead of its Expiry, or fulfilled by another one, nothing is sent.
func TestNoMorePrepared(t *testing.T) {
	for name, x := range map[string]api.Tx{
		"cancelled":             {From: 7, Kind: 6, Sig: signs("user", 1, transfer("a"), 2, api.Wide{})},
		"fulfilled":             {From: 7, Kind: 5, Fee: wide.Of(1), Sig: signs("user", 0, transfer("a"), 1, wide.Of(1))},
		"fulfilled by the user": {From: 0, Kind: 5, Sig: signs("user", 2, transfer("a"), 1, api.Wide{})},
	} {
		w, m := ready(t)
		x.Inv, x.Var = m.Inv, m.Var
		w.sends(t, name, sent(0, m))
		w.t.Submit(api.Tx{From: x.From, Nonce: 1, Kind: 1, Amount: wide.Of(1)})
		w.t.Submit(x)
		w.sends(t, name+" soon", sent(0, m))
		w.t.Include(1)
		if escrow.Status(w.t.State(), deal.Key(m.Inv)) < 2 {
			t.Fatalf("%s: it is not", name)
		}
		w.sends(t, name)
	}
}

// P22.1, Look: what reverted prepares nothing, and ends nothing.
func TestReverted(t *testing.T) {
	w := begin(t)
	i, v := transfer("a"), until(99, 1012)
	m := release(i, v, 1, 0)
	w.hears(t, m)
	for _, x := range []api.Tx{
		{From: 0, Kind: 4, Inv: i, Var: v},
		{From: 2, Kind: 4, Inv: i, Var: until(401, 1012)},
		{From: 2, Kind: 4, Inv: i, Var: until(99, 1000)},
	} {
		if err := w.put(x); err == api.OK {
			t.Fatalf("it is done: %#v", x)
		}
		w.sends(t, "it is not prepared")
	}
	w.prepares(t, i, v)
	for _, x := range []api.Tx{
		{From: 0, Kind: 5, Inv: i, Var: v, Fee: wide.Of(2), Sig: m.Sig},
		{From: 0, Kind: 5, Inv: i, Var: until(98, 1012), Fee: wide.Of(1), Sig: m.Sig},
		{From: 2, Kind: 6, Inv: i, Var: v},
		{From: 0, Kind: 6, Inv: i, Var: v, Fee: wide.Of(1), Sig: m.Sig},
	} {
		if err := w.put(x); err == api.OK {
			t.Fatalf("it is done: %#v", x)
		}
		w.sends(t, "it is prepared", sent(0, m))
	}
}

// P22.1, Look: Var's digest is stored there: neither another amount nor another Expiry.
func TestDigest(t *testing.T) {
	w := begin(t)
	i, v := transfer("a"), until(99, 1012)
	for n, other := range []api.Var{until(98, 1012), until(100, 1012), until(99, 1011), until(99, 1013), until(1012, 99), {Amount: api.Wide{99, 0, 0, 1}, Expiry: 1012}} {
		w.hears(t, release(i, other, 1, n))
	}
	w.prepares(t, i, v)
	w.sends(t, "no digest is the one")
	// What else is prepared with those data is another transfer.
	w.prepares(t, transfer("b"), until(98, 1012))
	w.sends(t, "no digest is the one")
	m := release(i, v, 1, 0)
	w.hears(t, m)
	w.sends(t, "one is", sent(0, m))
}

// P22.1, Look: each field of the transfer is that of what is prepared.
func TestTransfer(t *testing.T) {
	for name, set := range map[string]func(*api.Inv){
		"user":     func(i *api.Inv) { i.User = 1 },
		"root":     func(i *api.Inv) { i.Root = rootOf("other") },
		"router":   func(i *api.Inv) { i.Router = 3 },
		"send":     func(i *api.Inv) { i.Send = 1 },
		"recv":     func(i *api.Inv) { i.Recv = 0 },
		"receiver": func(i *api.Inv) { i.To = 4 },
		"Id":       func(i *api.Inv) { i.Id = "b" },
	} {
		w := begin(t)
		i, v := transfer("a"), until(99, 1012)
		other := i
		set(&other)
		w.hears(t, release(i, v, 1, 0))
		w.prepares(t, other, v)
		w.sends(t, "another "+name)
	}
}

// P22.1, Look: the side's time is below Expiry, on that side's clock.
func TestTime(t *testing.T) {
	w, m := ready(t)
	for ticks, due := range []bool{true, true, true, true, true, true, true, true, true, true, true, true, false, false} {
		if due {
			w.sends(t, fmt.Sprint("after ", ticks), sent(0, m))
		} else {
			w.sends(t, fmt.Sprint("after ", ticks))
		}
		w.t.Rise(1)
	}
	w.t.Rise(1 << 40)
	w.sends(t, "at the end of all times")
	last := &town{r: New(), t: chain.New(1, 1<<40-2)}
	last.must(t, api.Tx{From: 2, Kind: 2, Asset: 1, Amount: wide.Of(400), Inv: api.Inv{Router: 2}})
	m = release(transfer("a"), until(99, 1<<40), 1, 0)
	last.prepares(t, m.Inv, m.Var)
	last.hears(t, m)
	for _, want := range [][]api.Send{{sent(0, m)}, {sent(0, m)}, nil, nil} {
		last.sends(t, fmt.Sprint("at ", last.t.Time()), want...)
		last.t.Rise(1)
	}
}

// P22.1, Look: Sig is Root's, of any leaf, of the payload to fulfil, with the fee.
func TestSig(t *testing.T) {
	i, v := transfer("a"), until(99, 1012)
	one := wide.Of(1)
	for leaf := range 8 {
		w := begin(t)
		w.prepares(t, i, v)
		m := release(i, v, 1, leaf)
		w.hears(t, m)
		w.sends(t, fmt.Sprint("leaf ", leaf), sent(0, m))
	}
	good := signs("user", 3, i, 1, one)
	wrong := map[string]string{
		"to cancel":             signs("user", 3, i, 2, one),
		"without the fee":       signs("user", 3, i, 1, api.Wide{}),
		"with another fee":      signs("user", 3, i, 1, wide.Of(2)),
		"with a greater fee":    signs("user", 3, i, 1, api.Wide{1, 0, 0, 1}),
		"of another transfer":   signs("user", 3, transfer("b"), 1, one),
		"of another key":        signs("other", 3, i, 1, one),
		"of nobody":             "",
		"an octet less":         good[:144],
		"an octet more":         good + "x",
		"an octet less, behind": good[1:],
		"twice":                 good + good,
	}
	for place := range good {
		b := []byte(good)
		b[place] ^= 1 << (place % 8)
		wrong[fmt.Sprint("octet ", place, " changed")] = string(b)
	}
	w := begin(t)
	w.prepares(t, i, v)
	for name, sig := range wrong {
		w.r = New()
		w.hears(t, api.Message{Kind: 3, Inv: i, Var: v, Fee: one, Sig: sig})
		w.sends(t, name)
	}
	// What another one signed is heard first: the right one goes all the same.
	m := api.Message{Kind: 3, Inv: i, Var: v, Fee: one, Sig: good}
	w.hears(t, m)
	w.sends(t, "the right one", sent(0, m))
}

// P22.1, Look: fees of any size are the payload's; one that is above the amount is sent as well, as the chapter names no such hindrance.
func TestFees(t *testing.T) {
	i, v := transfer("a"), until(99, 1012)
	for _, fee := range []api.Wide{wide.Of(1), wide.Of(98), wide.Of(99), wide.Of(100), {0, 1}, {0, 0, 0, 1 << 63}, {math.MaxUint64, math.MaxUint64, math.MaxUint64, math.MaxUint64}} {
		w := begin(t)
		w.prepares(t, i, v)
		m := api.Message{Kind: 3, Inv: i, Var: v, Fee: fee, Sig: signs("user", 5, i, 1, fee)}
		w.hears(t, m)
		w.sends(t, "it is due", sent(0, m))
		want := api.OK
		if wide.Cmp(fee, v.Amount) > 0 {
			want = api.ErrAmount
		}
		if err := w.put(sent(0, m).Tx); err != want {
			t.Errorf("fee %v: %d", fee, err)
		}
		if want != api.OK {
			w.sends(t, "it reverted", sent(1, m))
		} else {
			w.sends(t, "it is done")
		}
	}
}

// P22.1, Look: a relayer without coins sends what is due, too.
func TestWithoutCoins(t *testing.T) {
	w, m := ready(t)
	w.must(t, api.Tx{From: 4, Kind: 1, Amount: wide.Of(999), Inv: api.Inv{To: 7}})
	if w.t.State().Purse.Of(4, 0) != (api.Wide{}) {
		t.Fatal("it has coins")
	}
	w.sends(t, "it has no coin", sent(1, m))
}

// P22.1, Look: nothing is sent, if one of the relayer's waits that fulfils that transfer, whatever else it says.
func TestWaits(t *testing.T) {
	for name, set := range map[string]func(*api.Tx){
		"the same":          func(*api.Tx) {},
		"another Nonce":     func(x *api.Tx) { x.Nonce = 9 },
		"another fee":       func(x *api.Tx) { x.Fee = wide.Of(2) },
		"another signature": func(x *api.Tx) { x.Sig = "x" },
		"other data":        func(x *api.Tx) { x.Var = until(1, 1) },
	} {
		w, m := ready(t)
		x := sent(0, m).Tx
		set(&x)
		if !w.t.Submit(x) {
			t.Fatalf("%s: it may not be", name)
		}
		w.sends(t, name)
	}
}

// P22.1, Look: what waits is no hindrance, if it is another sender's, of another kind or transfer, or waits on the other side.
func TestOthersWait(t *testing.T) {
	for name, set := range map[string]func(*api.Tx){
		"of the user":         func(x *api.Tx) { x.From = 0 },
		"of the router":       func(x *api.Tx) { x.From = 2 },
		"of another account":  func(x *api.Tx) { x.From = 5 },
		"of account 3":        func(x *api.Tx) { x.From = 3 },
		"to prepare":          func(x *api.Tx) { x.Kind = 4 },
		"to cancel":           func(x *api.Tx) { x.Kind = 6 },
		"a payment":           func(x *api.Tx) { x.Kind, x.Amount = 1, wide.Of(1) },
		"of another transfer": func(x *api.Tx) { x.Inv.Id = "b" },
		"of another root":     func(x *api.Tx) { x.Inv.Root = "01234567" },
		"of another router":   func(x *api.Tx) { x.Inv.Router = 3 },
	} {
		w, m := ready(t)
		x := sent(9, m).Tx
		set(&x)
		near := chain.New(0, 1000)
		if !w.t.Submit(x) || !near.Submit(sent(0, m).Tx) {
			t.Fatalf("%s: it may not be", name)
		}
		w.sends(t, name, sent(0, m))
	}
}

// P22.1, Look: what was sent and is not there, or reverted, is sent again.
func TestSentAgain(t *testing.T) {
	w, m := ready(t)
	for range 20 {
		w.sends(t, "it got lost", sent(0, m))
	}
	x := sent(0, m).Tx
	x.Sig = "x"
	w.t.Submit(x)
	w.sends(t, "one waits")
	w.t.Include(0)
	w.sends(t, "it reverted", sent(1, m))
}

// P22.1, Look: of two releases of one transfer both go, while none of the relayer's waits.
func TestTwoOfOne(t *testing.T) {
	w, m := ready(t)
	second := release(m.Inv, m.Var, 2, 1)
	same := release(m.Inv, m.Var, 1, 2)
	w.hears(t, second, same)
	w.sends(t, "none waits", sent(0, m), sent(1, second), sent(2, same))
	w.t.Submit(sent(1, second).Tx)
	w.sends(t, "one waits")
	w.t.Submit(sent(0, m).Tx)
	w.t.Include(1)
	w.sends(t, "one is done, another waits")
	w.t.Include(0)
	w.sends(t, "it is done")
}

// P22.1, Look: Nonces go on behind those that wait, in one look too.
func TestNonces(t *testing.T) {
	w := begin(t)
	w.must(t, api.Tx{From: 4, Kind: 1, Amount: wide.Of(1)})
	w.must(t, api.Tx{From: 4, Kind: 1, Amount: wide.Of(1)})
	// Of the relayer's 2 waits, and 4 and 5, which can't be included yet, and 0, which never can; of others' 3.
	for _, x := range []api.Tx{{From: 4, Nonce: 5}, {From: 4, Nonce: 2}, {From: 4, Nonce: 4}, {From: 4, Nonce: 0}, {From: 3, Nonce: 3}, {From: 5, Nonce: 6}} {
		x.Kind, x.Amount = 1, wide.Of(1)
		if !w.t.Submit(x) {
			t.Fatal("it may not be")
		}
	}
	var want []api.Send
	for n, nonce := range []int{3, 6, 7, 8} {
		m := release(transfer(fmt.Sprint(n)), until(9, 1012), 1, n)
		w.must(t, api.Tx{From: 2, Kind: 4, Inv: m.Inv, Var: m.Var})
		w.hears(t, m)
		want = append(want, sent(nonce, m))
	}
	for range 2 {
		w.sends(t, "Nonces", want...)
	}
}

// told is all that a relayer tells of some sides.
func told(r *Relay, l ...*chain.Chain) string {
	s := fmt.Sprint(r.Count())
	for _, c := range l {
		s += fmt.Sprintf(" %#v", r.Look(c))
	}
	return s
}

// P22.1, P1: of one that nobody made.
func TestNobodyMade(t *testing.T) {
	w, m := ready(t)
	var zero Relay
	for name, r := range map[string]*Relay{"nil": nil, "zero": &zero, "new": new(Relay)} {
		for range 2 {
			if r.Hear(put(t, m)) || r.Hear(nil) {
				t.Errorf("%s: Hear is true", name)
			}
			for _, c := range []*chain.Chain{w.t, nil, {}} {
				if l := r.Look(c); len(l) != 0 {
					t.Errorf("%s: Look = %#v", name, l)
				}
			}
			if r.Count() != 0 {
				t.Errorf("%s: Count = %d", name, r.Count())
			}
		}
		if r != nil && !reflect.DeepEqual(*r, Relay{}) {
			t.Errorf("%s: something was told to it", name)
		}
	}
}

// spoil writes over all of a list, as far as it has room.
func spoil[T any](l []T, with T) {
	rest := l[:cap(l)]
	for place := range rest {
		rest[place] = with
	}
}

// P22.2: answers are new memory; what is handed in is not kept, and not changed.
func TestMemory(t *testing.T) {
	w, m := ready(t)
	second := release(transfer("b"), until(50, 1010), 2, 1)
	w.prepares(t, second.Inv, second.Var)
	octets := slices.Grow(put(t, second), 99)
	if !w.r.Hear(octets) {
		t.Fatal("it is not kept")
	}
	spoil(octets, 'x')
	want := []api.Send{sent(0, m), sent(1, second)}
	w.sends(t, "what was handed in is kept", want...)
	before := fmt.Sprintf("%#v %v %v", w.t.State(), w.t.Pool(), w.t.Events(0))
	first, other := w.r.Look(w.t), w.r.Look(w.t)
	if before != fmt.Sprintf("%#v %v %v", w.t.State(), w.t.Pool(), w.t.Events(0)) {
		t.Error("a look changed the side")
	}
	spoil(first, api.Send{Side: 9})
	if !slices.Equal(other, want) {
		t.Error("two answers share memory")
	}
	w.sends(t, "an answer shares memory with the relayer", want...)
	other = append(other, api.Send{Side: 7})
	third := release(transfer("c"), until(51, 1010), 2, 2)
	w.prepares(t, third.Inv, third.Var)
	w.hears(t, third)
	w.sends(t, "it goes on", append(want, sent(2, third))...)
	if !slices.Equal(other, append(want, api.Send{Side: 7})) || w.r.Count() != 3 {
		t.Error("what was heard changed an answer")
	}
}

// A relayer that is copied as a value is one of its own.
func TestCopied(t *testing.T) {
	for many := range 12 {
		w := begin(t)
		var want []api.Send
		hear := func(r *Relay, id string, nonce int) api.Send {
			m := release(transfer(id), until(9, 1012), 1, nonce%8)
			w.prepares(t, m.Inv, m.Var)
			if !r.Hear(put(t, m)) {
				t.Fatal("it is not kept")
			}
			return sent(nonce, m)
		}
		for n := range many {
			want = append(want, hear(w.r, fmt.Sprint(n), n))
		}
		copied := *w.r
		mine := append(slices.Clone(want), hear(w.r, "mine", many))
		its := append(slices.Clone(want), hear(&copied, "its", many))
		w.sends(t, "its own", mine...)
		if !slices.Equal(copied.Look(w.t), its) || copied.Count() != many+1 || w.r.Count() != many+1 {
			t.Errorf("with %d: the copy's own is another", many)
		}
	}
}

// P1: no call panics, whatever it is given.
func TestOdd(t *testing.T) {
	w, m := ready(t)
	for n := range 14 {
		w.hears(t, api.Message{Kind: 3, Inv: api.Inv{User: n % 2, Root: "01234567", Router: 2 + n%2, To: n % 8, Id: "x"}, Var: until(1+uint64(n), 1<<(3*n)), Fee: api.Wide{0, 0, 0, 1 << n}, Sig: string(make([]byte, 144+n%3))})
	}
	sides := []*chain.Chain{nil, {}, chain.New(0, 1000), w.t}
	for _, n := range numbers() {
		sides = append(sides, chain.New(n, n), chain.New(1, n))
	}
	for range 2 {
		for _, c := range sides {
			if l := w.r.Look(c); (len(l) > 0) != (c == w.t) {
				t.Errorf("Look() = %#v", l)
			}
		}
	}
	w.sends(t, "it is as it was", sent(0, m))
	if w.r.Count() != 15 {
		t.Errorf("%d are there", w.r.Count())
	}
}

// P3: relayers know nothing of each other; the same again answers the same, also side by side.
func TestSideBySide(t *testing.T) {
	w, m := ready(t)
	octets := put(t, m)
	second := put(t, release(transfer("b"), until(50, 1010), 2, 1))
	answers := make(chan string)
	for range 4 {
		go func() {
			r := New()
			r.Hear(octets)
			r.Hear(second)
			answers <- fmt.Sprint(r.Hear(octets), told(r, w.t, nil))
		}()
	}
	want := <-answers
	for range 3 {
		if <-answers != want {
			t.Error("answers differ when calls run side by side")
		}
	}
	if w.r.Count() != 1 {
		t.Error("another relayer heard, too")
	}
}

// Example 1 of the whole, by the relayer: what the user itself sends to fulfil gets lost, and the receiver has 99 all the same.
func TestTrade(t *testing.T) {
	w := begin(t)
	near := chain.New(0, 1000)
	user, err := client.New(0, []string{mss.Root("router\x02"), mss.Root("router\x03")}, 1, 900)
	if err != api.OK {
		t.Fatal(err)
	}
	second, err := router.New(2, 1, 900)
	if err != api.OK {
		t.Fatal(err)
	}
	m, err := user.Ask(api.Ask{User: 0, Send: 0, Recv: 1, To: 5, Amount: wide.Of(100), Id: "a"}, 1000)
	if err != api.OK || !second.Hear(put(t, m)) {
		t.Fatal("it is not asked")
	}
	submit := func(l []api.Send) {
		for _, x := range l {
			c := []*chain.Chain{near, w.t}[x.Side]
			if !c.Submit(x.Tx) || !c.Include(0) {
				t.Fatalf("it is not included: %#v", x)
			}
		}
	}
	var brought []api.Send
	for range 6 {
		messages, sends := second.Look(near, w.t)
		for _, m := range messages {
			if !user.Hear(put(t, m), near.Time()) {
				t.Fatal("the bid is not taken")
			}
		}
		submit(sends)
		messages, sends = user.Look(near, w.t)
		w.hears(t, messages...)
		// What the user sends to the receiving side gets lost.
		submit(slices.DeleteFunc(sends, func(x api.Send) bool { return x.Side == 1 }))
		sends = w.r.Look(w.t)
		brought = append(brought, sends...)
		submit(sends)
		near.Rise(1)
		w.t.Rise(1)
	}
	key := deal.Key(user.Deals()[0].Inv)
	if escrow.Status(near.State(), key) != 2 || escrow.Status(w.t.State(), key) != 2 {
		t.Fatalf("it is not fulfilled: %#v", user.Deals())
	}
	p := w.t.State().Purse
	if len(brought) != 1 || w.r.Count() != 1 || p.Of(5, 1) != wide.Of(1099) || p.Of(4, 1) != wide.Of(1001) || p.Of(4, 0) != wide.Of(999) {
		t.Errorf("it brought %#v, who has what: %v", brought, p)
	}
}
