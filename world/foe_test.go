package world

import (
	"fmt"
	"math/rand"
	"slices"
	"testing"

	"narrows/api"
	"narrows/bid"
	"narrows/client"
	"narrows/deal"
	"narrows/mail"
	"narrows/mss"
	"narrows/plan"
	"narrows/txs"
	"narrows/wide"
)

// secret is what somebody signed: an act for a transfer, with a fee.
type secret struct {
	inv api.Inv
	act int
	fee api.Wide
	sig string
}

// foe plays a script that is as bad as may be, to a world and its model: it reads all that is on its way, and all that was submitted, and moves whoever is corrupted.
type foe struct {
	*testing.T
	w       *World
	m       *model
	ok      bool
	rand    *rand.Rand
	seen    map[string]int
	asks    []api.Ask
	bids    []api.Bid
	secrets []secret
	invs    []api.Inv
	halves  [2]map[api.Inv][]api.Var
	data    [][]byte
	leaves  [members]int
	junk    int
}

// begins is a foe of a world of a random setup.
func begins(t *testing.T, seed int, seen map[string]int) *foe {
	r := rand.New(rand.NewSource(int64(seed)))
	s := Setup{Delay: 1 + r.Intn(4), Skew: r.Intn(201) - 100, Corrupt: pick(r, r.Intn(32), 4, 8, 1, 2, 12, 3, 16, 0), Room: pick(r, plenty, plenty, plenty, 300+r.Intn(600))}
	w, err := New(s)
	if err != api.OK {
		t.Errorf("New(%v) = %d", s, err)
	}
	return &foe{T: t, w: w, m: beginModel(s), ok: true, rand: r, seen: seen, halves: [2]map[api.Inv][]api.Var{{}, {}}}
}

// pick is one of l.
func pick[T any](r *rand.Rand, l ...T) T {
	return l[r.Intn(len(l))]
}

// once puts x behind l, if it is not there.
func once[T comparable](l []T, x T) []T {
	if slices.Contains(l, x) {
		return l
	}
	return append(l, x)
}

// recent is one of the last of l.
func recent[T any](r *rand.Rand, l []T) T {
	return l[len(l)-1-r.Intn(min(4, len(l)))]
}

// chance is true n times of 100.
func (f *foe) chance(n int) bool {
	return f.rand.Intn(100) < n
}

// step is a step of both, of which the foe learns.
func (f *foe) step(x api.Step) {
	if !f.ok {
		return
	}
	f.w.Step(x)
	f.m.step(x)
	f.ok = f.m.same(f.T, f.w)
	f.learn()
}

// learn takes in all that is to be seen.
func (f *foe) learn() {
	for _, l := range f.w.mail {
		m, err := mail.Read(l.Data)
		if err != api.OK {
			continue
		}
		switch m.Kind {
		case 1:
			f.asks = once(f.asks, m.Ask)
		case 2:
			f.bids = once(f.bids, m.Bid)
		case 3:
			f.secrets = once(f.secrets, secret{m.Inv, 1, m.Fee, m.Sig})
		}
	}
	for side := range 2 {
		for _, t := range f.w.Side(side).Pool() {
			if t.Kind >= 4 {
				f.invs = once(f.invs, t.Inv)
				f.halves[side][t.Inv] = once(f.halves[side][t.Inv], t.Var)
			}
			if t.Kind >= 5 && t.Sig != "" {
				f.secrets = once(f.secrets, secret{t.Inv, t.Kind - 4, t.Fee, t.Sig})
			}
		}
	}
}

// is tells whether an account is corrupted.
func (f *foe) is(n int) bool {
	return f.w.setup.Corrupt>>n&1 == 1
}

// submit submits a transaction of a bad account's; mostly it is included at once.
func (f *foe) submit(side int, t api.Tx) {
	t.Nonce = f.w.Side(side).Next(t.From)
	data, err := txs.Octets(t)
	if err != api.OK {
		return
	}
	f.data = append(f.data, data)
	f.step(api.Step{Kind: 6, B: side, Data: data})
	if f.chance(60) {
		f.step(api.Step{Kind: 8, B: side, A: -1})
	}
}

// tell tells a message to a party, at once.
func (f *foe) tell(to int, m api.Message) {
	if data, err := mail.Put(m); err == api.OK {
		f.data = append(f.data, data)
		f.step(api.Step{Kind: 7, A: to, Data: data})
		f.step(api.Step{Kind: 3, A: -1})
	}
}

// bid lets a corrupted router bid for an ask that was heard.
func (f *foe) bid() {
	n := 2 + f.rand.Intn(2)
	if !f.is(n) || len(f.asks) == 0 || f.leaves[n] > 7 {
		return
	}
	a := recent(f.rand, f.asks)
	amount, _ := wide.Small(a.Amount)
	b, key, err := bid.Sign(api.Key{Seed: bid.Seed(n), Next: f.leaves[n]}, api.Bid{Router: n, Ask: a, Amount: wide.Of(max(1, amount-uint64(f.rand.Intn(2)))), Until: f.w.Side(0).Time() + 20})
	if err == api.OK {
		f.leaves[n] = key.Next
		f.tell(a.User, api.Message{Kind: 2, Bid: b})
		f.seen["foe bids"]++
	}
}

// want lets a corrupted user ask.
func (f *foe) want() {
	n := f.rand.Intn(2)
	if !f.is(n) {
		return
	}
	a := api.Ask{User: n, Send: f.rand.Intn(2), Recv: f.rand.Intn(2), To: f.rand.Intn(8), Amount: wide.Of(uint64(1 + f.rand.Intn(100))), Id: fmt.Sprint("foe", f.rand.Intn(6))}
	for to := 2; to < 4; to++ {
		f.tell(to, api.Message{Kind: 1, Ask: a})
	}
	f.seen["foe asks"]++
}

// lock lets a corrupted user take a bid, maybe with a bad Expiry or Amount.
func (f *foe) lock() {
	if len(f.bids) == 0 {
		return
	}
	b := recent(f.rand, f.bids)
	a := b.Ask
	if !f.is(a.User) {
		return
	}
	i := api.Inv{User: a.User, Root: mss.Root(client.Seed(a.User)), Router: b.Router, Send: a.Send, Recv: a.Recv, To: a.To, Id: a.Id}
	v := api.Var{Amount: a.Amount, Expiry: f.w.Side(0).Time() + plan.Long(f.w.setup.Delay) - f.rand.Intn(7)}
	if f.chance(15) {
		v.Amount[0]++
	}
	f.submit(0, api.Tx{From: a.User, Kind: 4, Inv: i, Var: v})
	f.seen["foe locks"]++
}

// mirror lets a corrupted router prepare what a user prepared, maybe with less, or for a short time.
func (f *foe) mirror() {
	if len(f.invs) == 0 {
		return
	}
	i := recent(f.rand, f.invs)
	if !f.is(i.Router) || len(f.halves[0][i]) == 0 {
		return
	}
	amount, _ := wide.Small(f.halves[0][i][0].Amount)
	v := api.Var{Amount: wide.Of(max(1, amount-uint64(f.rand.Intn(2)))), Expiry: f.w.Side(1).Time() + pick(f.rand, 1, 3, 5, 8, 12, 20, 30)}
	f.submit(1, api.Tx{From: i.Router, Kind: 2, Asset: i.Recv, Amount: v.Amount, Inv: api.Inv{Router: i.Router}})
	f.submit(1, api.Tx{From: i.Router, Kind: 4, Inv: i, Var: v})
	f.seen["foe mirrors"]++
}

// sign lets a corrupted user sign; seldom it signs for one that is not, which is to forge.
func (f *foe) sign() {
	if len(f.invs) == 0 {
		return
	}
	i := recent(f.rand, f.invs)
	if i.Root != mss.Root(client.Seed(i.User)) || !f.is(i.User) && !f.chance(2) {
		return
	}
	act, fee := 1+f.rand.Intn(2), wide.Of(uint64(f.rand.Intn(3)))
	sig, _, _ := mss.Sign(api.Key{Seed: client.Seed(i.User), Next: f.rand.Intn(8)}, deal.Payload(act, deal.Key(i), fee))
	f.secrets = append(f.secrets, secret{i, act, fee, sig})
	if act == 1 && len(f.halves[1][i]) > 0 {
		f.tell(4, api.Message{Kind: 3, Inv: i, Var: f.halves[1][i][0], Fee: fee, Sig: sig})
	}
	f.seen["foe signs"]++
}

// thief is an account for whose transactions nobody looks, that of the router, if it can be.
func (f *foe) thief(i api.Inv) int {
	if f.is(i.Router) && f.chance(70) {
		return i.Router
	}
	return 5 + f.rand.Intn(3)
}

// use uses what was signed, on any side.
func (f *foe) use() {
	side := f.rand.Intn(2)
	if len(f.secrets) == 0 {
		return
	}
	s := recent(f.rand, f.secrets)
	if l := f.halves[side][s.inv]; len(l) > 0 {
		f.submit(side, api.Tx{From: f.thief(s.inv), Kind: 4 + s.act, Inv: s.inv, Var: pick(f.rand, l...), Fee: s.fee, Sig: s.sig})
		f.seen["foe uses"]++
	}
}

// takeBack cancels without a signature.
func (f *foe) takeBack() {
	side := f.rand.Intn(2)
	if len(f.invs) == 0 {
		return
	}
	i := recent(f.rand, f.invs)
	if l := f.halves[side][i]; len(l) > 0 {
		f.submit(side, api.Tx{From: f.thief(i), Kind: 6, Inv: i, Var: pick(f.rand, l...)})
		f.seen["foe takes back"]++
	}
}

// stuff fills what waits on a side with what is never taken.
func (f *foe) stuff() {
	side := f.rand.Intn(2)
	for range 128 {
		f.junk++
		data, _ := txs.Octets(api.Tx{From: 7, Nonce: 1000 + f.junk, Kind: 1, Amount: wide.Of(1)})
		x := api.Step{Kind: 6, B: side, Data: data}
		f.w.Step(x)
		f.m.step(x)
	}
	f.seen["foe stuffs"]++
}

// wild is any step at all.
func (f *foe) wild() {
	n := func() int {
		if f.chance(10) {
			return pick(f.rand, numbers()...)
		}
		return f.rand.Intn(9) - 2
	}
	x := api.Step{Kind: pick(f.rand, -1, 0, 2, 3, 4, 5, 6, 6, 7, 8, 9, 10, 11, 12, 14, 15), A: n(), B: n(), C: n()}
	if len(f.data) > 0 {
		x.Data = pick(f.rand, f.data...)
	}
	if f.chance(10) {
		x.Data = []byte("wild")
	}
	f.step(x)
}

// moves lets the foe move.
func (f *foe) moves() {
	for range f.rand.Intn(4) {
		pick(f.rand, f.bid, f.bid, f.want, f.lock, f.lock, f.mirror, f.mirror, f.sign, f.use, f.use, f.takeBack)()
	}
	for range f.rand.Intn(3) {
		f.step(api.Step{Kind: pick(f.rand, 3, 3, 3, 4, 5, 8, 8), A: f.rand.Intn(9), B: f.rand.Intn(2)})
	}
	if f.chance(15) {
		f.step(api.Step{Kind: 9, A: f.rand.Intn(2), B: 1 + f.rand.Intn(150), C: f.rand.Intn(2)})
	}
	if f.chance(1) {
		f.step(api.Step{Kind: 12, A: f.rand.Intn(2), B: f.rand.Intn(5)})
	}
	if f.chance(15) {
		f.wild()
	}
	if f.rand.Intn(1500) == 0 {
		f.stuff()
	}
}

// include includes what must be on a side, and some ahead of that; seldom not at all.
func (f *foe) include(side int) {
	for _, t := range f.w.Side(side).Pool() {
		since, ok := f.w.waits[api.Send{Side: side, Tx: t}]
		must := ok && f.w.now-since >= f.w.setup.Delay && f.rand.Intn(200) > 0
		// Places move as others are included.
		place := slices.Index(f.w.Side(side).Pool(), t)
		if (must || f.chance(15)) && t.Nonce == f.w.Side(side).State().Nonces[t.From] && place >= 0 {
			f.step(api.Step{Kind: 8, A: place, B: side})
		}
	}
}

// care lets whoever is not corrupted look, and includes what it sends, when it must be, and sometimes ahead of that; seldom not at all.
func (f *foe) care() {
	for _, n := range f.rand.Perm(5) {
		if f.chance(3) {
			f.step(api.Step{Kind: 10, A: n, B: f.rand.Intn(300)})
			f.seen["falls"]++
		}
		if f.chance(95) {
			f.step(api.Step{Kind: 11, A: n})
		}
		must := n < 4 && f.w.now-f.w.looked[n] >= f.w.setup.Delay && f.rand.Intn(300) > 0
		if must || f.chance(30) {
			f.step(api.Step{Kind: 2, A: n})
		}
	}
	f.include(0)
	f.include(1)
	for range len(f.w.mail) {
		if f.chance(40) {
			f.step(api.Step{Kind: 3, A: f.rand.Intn(9)})
		}
	}
}

// became is what became of a transfer on a side, by events: its status, what prepared it, and what ended it.
func became(w *World, side int, i api.Inv) (int, api.Tx, api.Tx) {
	var first, end api.Tx
	status := 0
	for _, e := range w.Side(side).Events(0) {
		if e.Code != api.OK || e.Tx.Kind < 4 || e.Tx.Inv != i {
			continue
		}
		status = e.Tx.Kind - 3
		if status == 1 {
			first = e.Tx
		} else {
			end = e.Tx
		}
	}
	return status, first, end
}

// lasts tells whether what is prepared there is not past.
func lasts(w *World, side int, status int, t api.Tx) bool {
	return status == 1 && w.Side(side).Time() < t.Var.Expiry
}

// prepared is the transactions that prepared something on a side, of an account.
func prepared(w *World, side int, n int) []api.Tx {
	var l []api.Tx
	for _, e := range w.Side(side).Events(0) {
		if e.Code == api.OK && e.Tx.Kind == 4 && e.Tx.From == n {
			l = append(l, e.Tx)
		}
	}
	return l
}

// userLost tells whether a user lost what a transaction prepared.
func userLost(w *World, n int, x api.Tx) bool {
	near, _, _ := became(w, 0, x.Inv)
	far, there, by := became(w, 1, x.Inv)
	place := slices.IndexFunc(w.Client(n).Deals(), func(d client.Deal) bool { return d.Inv == x.Inv })
	if place < 0 {
		return true
	}
	d := w.Client(n).Deals()[place]
	paid := far == 2 && wide.Cmp(there.Var.Amount, d.Offer) >= 0 && wide.Cmp(by.Fee, w.Client(n).Fee(d.Offer)) <= 0
	return near == 2 && !paid && !lasts(w, 1, far, there)
}

// routerLost tells whether a router lost what a transaction prepared.
func routerLost(w *World, n int, x api.Tx) bool {
	near, there, _ := became(w, 0, x.Inv)
	far, _, _ := became(w, 1, x.Inv)
	ahead := there.Var.Expiry - x.Var.Expiry + w.setup.Skew
	a := api.Ask{User: x.Inv.User, Send: x.Inv.Send, Recv: x.Inv.Recv, To: x.Inv.To, Amount: there.Var.Amount, Id: x.Inv.Id}
	matches := slices.ContainsFunc(w.Router(n).Bids(), func(b api.Bid) bool {
		return b.Router == n && b.Amount == x.Var.Amount && b.Ask == a
	})
	return near == 0 || ahead <= 2*w.setup.Delay || !matches || far == 2 && near != 2 && !lasts(w, 0, near, there)
}

// nobodyLost tells it, if somebody lost something who is not late, though nothing was forged (G2, G3).
func (f *foe) nobodyLost() {
	for n := range 4 {
		for _, x := range prepared(f.w, n/2, n) {
			if f.w.at(n) == nil || n < 2 && !userLost(f.w, n, x) || n > 1 && !routerLost(f.w, n, x) {
				continue
			}
			if f.w.Late(n) || f.w.Forged() {
				f.seen["lost"]++
				continue
			}
			f.Errorf("setup %v, tick %d: %d lost %#v", f.w.setup, f.w.now, n, x)
			f.ok = false
		}
	}
}

// signedOnce tells it, if a leaf of a user who is not corrupted signed two unlike payloads, or a transfer was signed for both acts, as far as the foe saw (G4).
func (f *foe) signedOnce() {
	for n := range 2 {
		c := f.w.Client(n)
		leaves, acts := map[int]string{}, map[string]int{}
		for _, s := range f.secrets {
			key := deal.Key(s.inv)
			payload := string(deal.Payload(s.act, key, s.fee))
			leaf, ok := mss.Verify(c.Root(), []byte(payload), s.sig)
			if !ok || f.w.Forged() {
				continue
			}
			if leaves[leaf] == "" {
				leaves[leaf] = payload
			}
			if acts[key] == 0 {
				acts[key] = s.act
			}
			f.seen["signed"]++
			if leaves[leaf] != payload || acts[key] != s.act {
				f.Errorf("setup %v: leaf %d of %d signed %#v, too", f.w.setup, leaf, n, s)
			}
		}
	}
}

// play is a random run.
func play(t *testing.T, seed int, seen map[string]int) {
	f := begins(t, seed, seen)
	for range 60 {
		f.moves()
		f.care()
		f.moves()
		f.step(api.Step{Kind: 1})
		if f.chance(1) {
			f.step(api.Step{Kind: 13})
		}
		if f.ok && f.m.sameLate(t, f.w) {
			f.nobodyLost()
		}
	}
	f.signedOnce()
	if f.w.Clash() || f.m.clash() {
		t.Error("names clash")
	}
	for n := range 4 {
		if f.w.at(n) != nil {
			seen[fmt.Sprintf("%d is late: %t", n, f.w.Late(n))]++
		}
	}
	seen[fmt.Sprint("forged: ", f.w.Forged())]++
	for _, i := range f.invs {
		near, _, _ := became(f.w, 0, i)
		far, _, _ := became(f.w, 1, i)
		seen[fmt.Sprintf("%d/%d user %t router %t", near, far, !f.is(i.User), !f.is(i.Router))]++
	}
	if !f.ok {
		t.Errorf("seed %d fails", seed)
	}
}

// A world is as its model, step by step, whatever the foe does; and nobody loses who is not corrupted, and not late (G2, G3).
func TestFoe(t *testing.T) {
	const runs, workers = 48, 8
	all := make(chan map[string]int)
	for first := range workers {
		go func() {
			seen := map[string]int{}
			for seed := first; seed < runs; seed += workers {
				play(t, seed, seen)
			}
			all <- seen
		}()
	}
	seen := map[string]int{}
	for range workers {
		for what, n := range <-all {
			seen[what] += n
		}
	}
	for _, what := range []string{
		"foe bids", "foe asks", "foe locks", "foe mirrors", "foe signs", "foe uses", "foe takes back", "foe stuffs", "falls", "lost", "forged: true", "forged: false", "signed",
		"0 is late: true", "0 is late: false", "1 is late: true", "1 is late: false", "2 is late: true", "2 is late: false", "3 is late: true", "3 is late: false",
		"2/2 user true router true", "2/2 user true router false", "2/2 user false router true", "3/3 user true router true", "3/0 user true router true", "3/1 user true router false", "1/3 user false router true",
	} {
		if seen[what] == 0 {
			t.Errorf("there was none: %s", what)
		}
	}
	if testing.Verbose() {
		t.Log(seen)
	}
}
