package judge

import (
	"fmt"
	"math/big"
	"math/rand"
	"slices"
	"testing"

	"narrows/api"
	"narrows/bid"
	"narrows/client"
	"narrows/deal"
	"narrows/mail"
	"narrows/mss"
	"narrows/plan"
	"narrows/script"
	"narrows/txs"
	"narrows/wide"
	"narrows/world"
)

// A second writing of the chapter, by events and big numbers.

// fate is what became of a transfer on a side: what prepared it, what ended it, and its status.
type fate struct {
	first, end api.Tx
	status     int
}

// fates is those of a side, by transfer.
func fates(w *world.World, side int) map[api.Inv]fate {
	all := map[api.Inv]fate{}
	for _, e := range w.Side(side).Events(0) {
		if e.Code != api.OK || e.Tx.Kind < 4 {
			continue
		}
		f := all[e.Tx.Inv]
		f.status = e.Tx.Kind - 3
		if f.status == 1 {
			f.first = e.Tx
		} else {
			f.end = e.Tx
		}
		all[e.Tx.Inv] = f
	}
	return all
}

// number is a wide one.
func number(a api.Wide) *big.Int {
	n := new(big.Int)
	for i := 3; i >= 0; i-- {
		n.Lsh(n, 64).Add(n, new(big.Int).SetUint64(a[i]))
	}
	return n
}

// open tells whether a transfer is prepared on a side, and not past.
func (f fate) open(w *world.World, side int) bool {
	return f.status == 1 && f.first.Var.Expiry-w.Side(side).Time() > 0
}

// lost tells whether a party lost what x prepared, by what became of it on both sides.
func lost(w *world.World, n int, x api.Tx, near fate, far fate) bool {
	if n < 2 {
		for _, d := range w.Client(n).Deals() {
			fee := big.NewInt(1)
			if number(d.Offer).Cmp(fee) == 0 {
				fee = big.NewInt(0)
			}
			if d.Inv == x.Inv && far.status == 2 && number(far.first.Var.Amount).Cmp(number(d.Offer)) >= 0 && number(far.end.Fee).Cmp(fee) <= 0 {
				return false
			}
		}
		return near.status == 2 && !far.open(w, 1)
	}
	bids := 0
	for _, b := range w.Router(n).Bids() {
		a := b.Ask
		if a.User == x.Inv.User && a.Send == x.Inv.Send && a.Recv == x.Inv.Recv && a.To == x.Inv.To && a.Id == x.Inv.Id && a.Amount == near.first.Var.Amount && b.Amount == x.Var.Amount {
			bids++
		}
	}
	s := w.Setup()
	ends := [2]int{near.first.Var.Expiry - atFirst(0, s), far.first.Var.Expiry - atFirst(1, s)}
	return near.status == 0 || bids == 0 || ends[0]-ends[1] <= 2*s.Delay || far.status == 2 && near.status != 2 && !near.open(w, 0)
}

// verdictsOf is what User or Router should answer.
func verdictsOf(w *world.World, n int) []Verdict {
	if w.Client(n) == nil && w.Router(n) == nil {
		return nil
	}
	near, far := fates(w, 0), fates(w, 1)
	var l []Verdict
	for _, e := range w.Side(n / 2).Events(0) {
		if i := e.Tx.Inv; e.Code == api.OK && e.Tx.Kind == 4 && e.Tx.From == n {
			l = append(l, Verdict{deal.Key(i), near[i].status, far[i].status, !lost(w, n, e.Tx, near[i], far[i])})
		}
	}
	return l
}

// judged is User or Router, whichever it is.
func judged(w *world.World, n int) []Verdict {
	if n < 2 {
		return User(w, n)
	}
	return Router(w, n)
}

// secret is what somebody signed: an act for a transfer, with a fee.
type secret struct {
	inv api.Inv
	act int
	fee api.Wide
	sig string
}

// foe plays a script that is as bad as may be: it reads all that is on its way, and all that waits, moves whoever is corrupted, and lets others look and be included as late as may be.
type foe struct {
	*testing.T
	w      *world.World
	rand   *rand.Rand
	script []api.Step
	seen   map[string]int

	// eager is how often, of 100 times, somebody looks or is included ahead of when it must be; careless is how often, of 1000 times, not even then; and forger is how often, of 100 times, it signs for who is not corrupted.
	eager    int
	careless int
	forger   int

	looked [4]int
	waits  map[api.Send]int

	asks    []api.Ask
	bids    []api.Bid
	secrets []secret
	invs    []api.Inv
	halves  [2]map[api.Inv][]api.Var
	leaves  [4]int
}

// begins is a foe of a world of a random setup.
func begins(t *testing.T, seed int, seen map[string]int) *foe {
	r := rand.New(rand.NewSource(int64(seed)))
	s := world.Setup{
		Delay:   1 + r.Intn(4),
		Skew:    r.Intn(201) - 100,
		Corrupt: pick(r, 0, 1, 2, 3, 4, 8, 12, 12, 16, 20, 25, r.Intn(32)),
		Room:    pick(r, plenty, plenty, plenty, 300+r.Intn(900)),
	}
	return &foe{
		T: t, w: made(t, s), rand: r, seen: seen,
		eager: pick(r, 0, 10, 40, 80), careless: pick(r, 0, 0, 0, 3, 30), forger: pick(r, 0, 0, 0, 10),
		waits: map[api.Send]int{}, halves: [2]map[api.Inv][]api.Var{{}, {}},
	}
}

// pick is one of l.
func pick[T any](r *rand.Rand, l ...T) T {
	return l[r.Intn(len(l))]
}

// recent is one of the last of l.
func recent[T any](r *rand.Rand, l []T) T {
	return l[len(l)-1-r.Intn(min(3, len(l)))]
}

// once puts x behind l, if it is not there.
func once[T comparable](l []T, x T) []T {
	if slices.Contains(l, x) {
		return l
	}
	return append(l, x)
}

// chance is true n times of 100.
func (f *foe) chance(n int) bool {
	return f.rand.Intn(100) < n
}

// is tells whether an account is corrupted.
func (f *foe) is(n int) bool {
	return f.w.Setup().Corrupt>>n&1 == 1
}

// step is a step, of which the foe learns.
func (f *foe) step(x api.Step) {
	f.w.Step(x)
	f.script = append(f.script, x)
	for _, l := range f.w.Mail() {
		f.read(l)
	}
	for side := range 2 {
		pool := f.w.Side(side).Pool()
		for _, t := range pool {
			f.meet(side, t)
		}
		for s := range f.waits {
			if s.Side == side && !slices.Contains(pool, s.Tx) {
				delete(f.waits, s)
			}
		}
	}
}

// read learns of a letter.
func (f *foe) read(l api.Mail) {
	m, err := mail.Read(l.Data)
	if err != api.OK {
		return
	}
	switch m.Kind {
	case 1:
		f.asks = once(f.asks, m.Ask)
	case 2:
		f.bids = once(f.bids, m.Bid)
	case 3:
		f.secrets = once(f.secrets, secret{m.Inv, 1, m.Fee, m.Sig})
	}
}

// meet learns of a transaction that waits.
func (f *foe) meet(side int, t api.Tx) {
	if s := (api.Send{Side: side, Tx: t}); t.From < 4 && !f.is(t.From) {
		if _, ok := f.waits[s]; !ok {
			f.waits[s] = f.w.Now()
		}
	}
	if t.Kind >= 4 {
		f.invs = once(f.invs, t.Inv)
		f.halves[side][t.Inv] = once(f.halves[side][t.Inv], t.Var)
	}
	if t.Kind >= 5 && t.Sig != "" {
		f.secrets = once(f.secrets, secret{t.Inv, t.Kind - 4, t.Fee, t.Sig})
	}
}

// submit submits a transaction of a bad account's; mostly it is included at once.
func (f *foe) submit(side int, t api.Tx) {
	t.Nonce = f.w.Side(side).Next(t.From)
	if txs.Check(t) != api.OK {
		return
	}
	f.step(api.Step{Kind: 6, B: side, Data: octets(f.T, t)})
	if f.chance(90) {
		f.step(api.Step{Kind: 8, B: side, A: -1})
	}
}

// tell tells a message to a party, at once.
func (f *foe) tell(to int, m api.Message) {
	if data, err := mail.Put(m); err == api.OK {
		f.step(api.Step{Kind: 7, A: to, Data: data})
		f.step(api.Step{Kind: 3, A: -1})
	}
}

// bid lets a corrupted router bid for an ask that was heard.
func (f *foe) bid() {
	n := 2 + f.rand.Intn(2)
	if !f.is(n) || len(f.asks) == 0 || f.leaves[n] > 7 {
		return
	}
	a := recent(f.rand, f.asks)
	b, key, err := bid.Sign(api.Key{Seed: bid.Seed(n), Next: f.leaves[n]}, api.Bid{Router: n, Ask: a, Amount: a.Amount, Until: f.w.Side(0).Time() + 20})
	if err == api.OK {
		f.leaves[n] = key.Next
		f.tell(a.User, api.Message{Kind: 2, Bid: b})
	}
}

// want lets a corrupted user ask.
func (f *foe) want() {
	n := f.rand.Intn(2)
	if !f.is(n) {
		return
	}
	a := api.Ask{User: n, Send: f.rand.Intn(2), Recv: f.rand.Intn(2), To: f.rand.Intn(8), Amount: wide.Of(uint64(1 + f.rand.Intn(100))), Id: fmt.Sprint("foe", f.rand.Intn(6))}
	for to := 2; to < 4; to++ {
		f.tell(to, api.Message{Kind: 1, Ask: a})
	}
}

// lock lets a corrupted user take a bid, with an Expiry about the least that a router takes, and maybe with another Amount.
func (f *foe) lock() {
	if len(f.bids) == 0 {
		return
	}
	b := recent(f.rand, f.bids)
	a, d := b.Ask, f.w.Setup().Delay
	if !f.is(a.User) {
		return
	}
	i := api.Inv{User: a.User, Root: mss.Root(client.Seed(a.User)), Router: b.Router, Send: a.Send, Recv: a.Recv, To: a.To, Id: a.Id}
	v := api.Var{Amount: a.Amount, Expiry: f.w.Side(0).Time() + pick(f.rand, plan.Long(d), plan.Short(d)+3*d+2+f.rand.Intn(2*d+1), plan.Short(d)+3*d+1)}
	if f.chance(10) {
		v.Amount[0]++
	}
	f.submit(0, api.Tx{From: a.User, Kind: 4, Inv: i, Var: v})
}

// mirror lets a corrupted router prepare what a user prepared, maybe with less, or for about the least time for which a user signs.
func (f *foe) mirror() {
	if len(f.invs) == 0 {
		return
	}
	i := recent(f.rand, f.invs)
	if !f.is(i.Router) || len(f.halves[0][i]) == 0 {
		return
	}
	amount, _ := wide.Small(f.halves[0][i][0].Amount)
	d := f.w.Setup().Delay
	v := api.Var{Amount: wide.Of(max(1, amount-uint64(f.rand.Intn(10)/9))), Expiry: f.w.Side(1).Time() + pick(f.rand, d+1, d+2, d+3, 2*d+1, 2*d+2, plan.Short(d))}
	f.submit(1, api.Tx{From: i.Router, Kind: 2, Asset: i.Recv, Amount: v.Amount, Inv: api.Inv{Router: i.Router}})
	f.submit(1, api.Tx{From: i.Router, Kind: 4, Inv: i, Var: v})
}

// sign lets a corrupted user sign; a forger signs for others, too.
func (f *foe) sign() {
	if len(f.invs) == 0 {
		return
	}
	i := recent(f.rand, f.invs)
	if i.Root != mss.Root(client.Seed(i.User)) || !f.is(i.User) && !f.chance(f.forger) {
		return
	}
	act, fee := 1+f.rand.Intn(8)/7, wide.Of(uint64(f.rand.Intn(3)))
	sig, _, _ := mss.Sign(api.Key{Seed: client.Seed(i.User), Next: f.rand.Intn(8)}, deal.Payload(act, deal.Key(i), fee))
	f.secrets = once(f.secrets, secret{i, act, fee, sig})
}

// ripe tells whether what was signed for a transfer is to be used now: on the receiving side mostly as late as may be.
func (f *foe) ripe(i api.Inv, side int) bool {
	l := f.halves[1][i]
	return side == 0 || len(l) == 0 || f.chance(20) || l[len(l)-1].Expiry-f.w.Side(1).Time() < 3
}

// use uses what was signed, on any side.
func (f *foe) use() {
	side := f.rand.Intn(2)
	if len(f.secrets) == 0 {
		return
	}
	s := recent(f.rand, f.secrets)
	if l := f.halves[side][s.inv]; len(l) > 0 && f.ripe(s.inv, side) {
		f.submit(side, api.Tx{From: f.thief(s.inv), Kind: 4 + s.act, Inv: s.inv, Var: pick(f.rand, l...), Fee: s.fee, Sig: s.sig})
	}
}

// takeBack cancels without a signature.
func (f *foe) takeBack() {
	side := f.rand.Intn(2)
	if len(f.invs) == 0 {
		return
	}
	i := recent(f.rand, f.invs)
	if l := f.halves[side][i]; len(l) > 0 && (side == 1 || f.chance(20) || l[0].Expiry <= f.w.Side(0).Time()) {
		f.submit(side, api.Tx{From: f.thief(i), Kind: 6, Inv: i, Var: pick(f.rand, l...)})
	}
}

// thief is an account for whose transactions nobody looks, that of the router, if it can be.
func (f *foe) thief(i api.Inv) int {
	if f.is(i.Router) && f.chance(50) {
		return i.Router
	}
	return 5 + f.rand.Intn(3)
}

// moves lets the foe move.
func (f *foe) moves() {
	for range f.rand.Intn(3) {
		pick(f.rand, f.bid, f.want, f.lock, f.lock, f.mirror, f.sign, f.use, f.use, f.takeBack)()
	}
	if f.chance(8) {
		f.step(api.Step{Kind: 9, A: f.rand.Intn(2), B: 1 + f.rand.Intn(100), C: f.rand.Intn(2)})
	}
	if f.chance(1) {
		f.step(api.Step{Kind: 12, A: f.rand.Intn(2), B: f.rand.Intn(5)})
	}
	if n := len(f.w.Mail()); n > 0 && f.chance(40) {
		f.step(api.Step{Kind: pick(f.rand, 3, 3, 3, 3, 3, 4, 5), A: f.rand.Intn(n)})
	}
}

// must tells whether what last was done at that tick must be done ahead of the next one; a careless foe thinks so less often.
func (f *foe) must(since int) bool {
	return f.w.Now()-since >= f.w.Setup().Delay && f.rand.Intn(1000) >= f.careless
}

// care lets whoever is not corrupted look, and be included, when it must, and sometimes ahead of that.
func (f *foe) care() {
	for _, n := range f.rand.Perm(5) {
		if f.is(n) || n == 4 && !f.chance(20) {
			continue
		}
		if n < 4 && f.chance(2) {
			f.step(api.Step{Kind: 10, A: n, B: f.rand.Intn(300)})
		}
		if n == 4 || f.must(f.looked[n]) || f.chance(f.eager) {
			f.look(n)
		}
	}
	for _, side := range f.rand.Perm(2) {
		f.include(side)
	}
}

// look lets a party look that is up, or is so now.
func (f *foe) look(n int) {
	if n < 4 {
		c, r := f.w.Client(n), f.w.Router(n)
		if c != nil && c.Down() || r != nil && r.Down() {
			f.step(api.Step{Kind: 11, A: n})
		}
		f.looked[n] = f.w.Now()
	}
	f.step(api.Step{Kind: 2, A: n})
}

// include includes what must be on a side, and some ahead of that.
func (f *foe) include(side int) {
	for _, t := range f.w.Side(side).Pool() {
		since, ok := f.waits[api.Send{Side: side, Tx: t}]
		if ok && f.must(since) || f.chance(f.eager) {
			// Places move as others are included.
			f.step(api.Step{Kind: 8, A: slices.Index(f.w.Side(side).Pool(), t), B: side})
		}
	}
}

// judge tells it, if the verdicts are not those of the second writing, or somebody lost something who is not late, though nothing was forged (P26.2).
func (f *foe) judge() {
	for n := range 4 {
		l := judged(f.w, n)
		is(f.T, fmt.Sprintf("setup %v, tick %d: %d", f.w.Setup(), f.w.Now(), n), l, verdictsOf(f.w, n)...)
		safe := !f.w.Late(n) && !f.w.Forged() && !f.w.Clash()
		if safe && !Well(l) {
			f.Errorf("setup %v, tick %d: %d lost something: %s", f.w.Setup(), f.w.Now(), n, shown(l))
		}
		for _, v := range l {
			f.seen[fmt.Sprintf("%d/%d of %s: well %t", v.Near, v.Far, []string{"user", "router"}[n/2], v.Well)]++
			f.seen[fmt.Sprintf("safe: %t, well: %t", safe, v.Well)]++
		}
		if total := Count(l, 1, 1) + Count(l, 2, 2); total > 0 && Count(l, 2, 2) == total {
			f.seen["all is fulfilled"]++
		}
	}
}

// play is a random run, within what a script may be.
func play(t *testing.T, seed int, seen map[string]int) {
	f := begins(t, seed, seen)
	for len(f.script) < api.MaxSteps-60 {
		f.moves()
		f.care()
		f.moves()
		f.step(api.Step{Kind: 1})
		f.judge()
	}
	if len(f.script) > api.MaxSteps {
		t.Errorf("seed %d: %d steps", seed, len(f.script))
	}
	w, err := script.Run(f.w.Setup(), f.script)
	if err != api.OK {
		t.Fatal(err)
	}
	for n := range 4 {
		is(t, fmt.Sprintf("seed %d, once more: %d", seed, n), judged(w, n), judged(f.w, n)...)
	}
	if t.Failed() {
		t.Errorf("seed %d fails", seed)
	}
}

// P26.1, P26.2: whatever the script, and whoever is corrupted, verdicts are those of the second writing, and all is well for who is not corrupted and not late, if nothing was forged.
func TestFoe(t *testing.T) {
	const runs, workers = 160, 8
	var each [workers]map[string]int
	t.Run("runs", func(t *testing.T) {
		for first := range workers {
			each[first] = map[string]int{}
			t.Run(fmt.Sprint(first), func(t *testing.T) {
				t.Parallel()
				for seed := first; seed < runs; seed += workers {
					play(t, seed, each[first])
				}
			})
		}
	})
	seen := map[string]int{}
	for _, l := range each {
		for what, n := range l {
			seen[what] += n
		}
	}
	for _, what := range []string{
		"safe: true, well: true", "safe: false, well: true", "safe: false, well: false", "all is fulfilled",
		"1/0 of user: well true", "1/1 of user: well true", "1/2 of user: well true", "2/1 of user: well true", "2/2 of user: well true", "3/0 of user: well true", "3/3 of user: well true", "1/3 of user: well true", "2/0 of user: well false",
		"1/1 of router: well true", "1/2 of router: well true", "2/2 of router: well true", "2/1 of router: well true", "1/3 of router: well true", "3/3 of router: well true",
	} {
		if seen[what] == 0 {
			t.Errorf("there was none: %s", what)
		}
	}
	if testing.Verbose() {
		t.Log(seen)
	}
}
