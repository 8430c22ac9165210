package audit

import (
	"fmt"
	"math/rand"
	"slices"
	"testing"

	"narrows/api"
	"narrows/bid"
	"narrows/client"
	"narrows/mail"
	"narrows/mss"
	"narrows/plan"
	"narrows/txs"
	"narrows/wide"
	"narrows/world"
)

// plenty is a disk's room that nothing here uses up.
const plenty = 1 << 16

// made is a world of that setup.
func made(t *testing.T, s world.Setup) *world.World {
	t.Helper()
	w, err := world.New(s)
	if err != api.OK {
		t.Fatalf("New(%v) = %d", s, err)
	}
	return w
}

// steps lets steps happen, each of a kind, A and B.
func steps(w *world.World, l ...[3]int) {
	for _, x := range l {
		w.Step(api.Step{Kind: x[0], A: x[1], B: x[2]})
	}
}

// rounds is so many fair rounds.
func rounds(w *world.World, n int) {
	for range n {
		steps(w, [3]int{13, 0, 0})
	}
}

// events is all that came of what was included, on both sides.
func events(w *world.World) []api.Event {
	return append(w.Side(0).Events(0), w.Side(1).Events(0)...)
}

// rootOf is a user's root, whether it is corrupted or not.
func rootOf(user int) string {
	return mss.Root(client.Seed(user))
}

// clean tells it, if of a user who is not corrupted something is there twice, or with both acts, though nothing was forged, or it is not what the user acted for (P27.2); and is what the user signed.
func clean(t *testing.T, what string, w *world.World, user int) []Use {
	t.Helper()
	l := Of(events(w), rootOf(user))
	c := w.Client(user)
	if c == nil || w.Forged() {
		return l
	}
	if twice, both := Twice(l), Both(l); len(twice) != 0 || len(both) != 0 {
		t.Errorf("%s: user %d: Twice = %s, Both = %x", what, user, shown(twice), both)
	}
	signed := c.Signed()
	for _, u := range l {
		if u.Leaf >= len(signed) || signed[u.Leaf] != payloadOf(u.Act, u.Key, u.Fee) {
			t.Errorf("%s: user %d did not sign %s", what, user, shown([]Use{u}))
		}
	}
	if Leaves(l) != len(l) || len(l) > len(signed) {
		t.Errorf("%s: user %d: %d leaves of %d uses, %d were signed", what, user, Leaves(l), len(l), len(signed))
	}
	return l
}

// brings lets account 6 bring a signature to a side, at once, and is what came of it.
func brings(t *testing.T, w *world.World, side int, act int, i api.Inv, fee api.Wide, sig string) api.Errno {
	t.Helper()
	c := w.Side(side)
	v := api.Var{Amount: wide.Of(1), Expiry: 1}
	for _, e := range c.Events(0) {
		if e.Tx.Kind == 4 && e.Tx.Inv == i {
			v = e.Tx.Var
		}
	}
	data, err := txs.Octets(api.Tx{From: 6, Nonce: c.Next(6), Kind: 4 + act, Inv: i, Var: v, Fee: fee, Sig: sig})
	if err != api.OK {
		t.Fatalf("Octets = %d", err)
	}
	before := len(c.Events(0))
	w.Step(api.Step{Kind: 6, B: side, Data: data})
	steps(w, [3]int{8, -1, side})
	after := c.Events(0)
	if len(after) != before+1 {
		t.Fatalf("it is not included")
	}
	return after[before].Code
}

// P27.2: of a fair trade one use is there, by whomever it is brought, and wherever, also if it reverts.
func TestTrade(t *testing.T) {
	w := made(t, world.Setup{Delay: 1, Skew: 7, Room: plenty})
	w.Step(api.Step{Kind: 9, A: 1, B: 100, C: 1})
	for range 3 {
		rounds(w, 1)
		if got := clean(t, "it is not signed yet", w, 1); len(got) != 0 {
			t.Error(shown(got))
		}
	}
	rounds(w, 3)
	d := w.Client(1).Deals()[0]
	want := []Use{{Leaf: 0, Act: 1, Key: keyOf(d.Inv), Fee: wide.Of(1)}}
	for side := range 2 {
		if got := Of(w.Side(side).Events(0), rootOf(1)); !slices.Equal(got, want) {
			t.Errorf("side %d: %s; want %s", side, shown(got), shown(want))
		}
	}
	l := w.Side(1).Events(0)
	sig := l[len(l)-1].Tx.Sig
	for side := range 2 {
		if code := brings(t, w, side, 1, d.Inv, wide.Of(1), sig); code != api.ErrStatus {
			t.Errorf("side %d: %d", side, code)
		}
		// Of another act, and of another fee, it is none.
		brings(t, w, side, 2, d.Inv, wide.Of(1), sig)
		brings(t, w, side, 1, d.Inv, wide.Of(0), sig)
	}
	is(t, "trade", events(w), rootOf(1), want...)
	clean(t, "trade", w, 1)
	if got := clean(t, "the other user", w, 0); len(got) != 0 {
		t.Error(shown(got))
	}
}

// P27.2: of what was recalled its act to cancel is there; what is cancelled without a signature is not.
func TestRecalls(t *testing.T) {
	w := made(t, world.Setup{Delay: 1, Room: plenty})
	w.Step(api.Step{Kind: 9, A: 0, B: 50, C: 1})
	rounds(w, 2)
	steps(w, [3]int{12, 0, 0})
	rounds(w, 60)
	d := w.Client(0).Deals()[0]
	is(t, "recalled", events(w), rootOf(0), Use{Leaf: 0, Act: 2, Key: keyOf(d.Inv), Fee: wide.Of(1)})
	cancelled := 0
	for _, e := range events(w) {
		if e.Tx.Kind == 6 && e.Code == api.OK {
			cancelled++
		}
	}
	if cancelled != 2 {
		t.Errorf("%d are cancelled", cancelled)
	}
	clean(t, "recalled", w, 0)
}

// P27.2: a user signs eight times, each by a leaf of its own, and no ninth time.
func TestEight(t *testing.T) {
	w := made(t, world.Setup{Delay: 1, Room: plenty})
	for n := range 12 {
		w.Step(api.Step{Kind: 9, A: 0, B: 10 + n, C: n})
		rounds(w, 3)
		if n%3 == 2 {
			steps(w, [3]int{12, 0, n})
		}
		rounds(w, 3)
	}
	l := clean(t, "twelve deals", w, 0)
	if Leaves(l) != 8 || len(l) != 8 {
		t.Errorf("%d leaves: %s", Leaves(l), shown(l))
	}
}

// P27.2: nor is a leaf there twice behind a fall, whatever lasts of its look's records.
func TestFalls(t *testing.T) {
	acted := 0
	for ahead := range 5 {
		for _, keep := range []int{0, 1, 6, 7, 23, 24, 25, 47, 48, 100, 118, 119, 120, 1000} {
			w := made(t, world.Setup{Delay: 1, Skew: -3, Room: plenty})
			w.Step(api.Step{Kind: 9, A: 0, B: 30, C: 1})
			rounds(w, 1)
			w.Step(api.Step{Kind: 9, A: 0, B: 40, C: 1})
			rounds(w, ahead)
			steps(w, [3]int{10, 0, keep}, [3]int{11, 0, 0}, [3]int{12, 0, 0})
			rounds(w, 2)
			steps(w, [3]int{10, 0, keep}, [3]int{11, 0, 0})
			w.Step(api.Step{Kind: 9, A: 0, B: 20, C: 1})
			rounds(w, 6)
			acted += len(clean(t, fmt.Sprintf("%d rounds, keep %d", ahead, keep), w, 0))
		}
	}
	if acted < 100 {
		t.Errorf("only %d are signed", acted)
	}
}

// P27.1, P27.2: what was forged is told, too: then leaves are there twice, and keys with both acts.
func TestForged(t *testing.T) {
	w := made(t, world.Setup{Delay: 2, Room: plenty})
	w.Step(api.Step{Kind: 9, A: 0, B: 30, C: 1})
	rounds(w, 6)
	i := w.Client(0).Deals()[0].Inv
	fulfilled := Use{Leaf: 0, Act: 1, Key: keyOf(i), Fee: wide.Of(1)}
	is(t, "ahead", events(w), rootOf(0), fulfilled)
	cancelled := Use{Leaf: 0, Act: 2, Key: keyOf(i), Fee: wide.Of(1)}
	if code := brings(t, w, 1, 2, i, wide.Of(1), sign(t, client.Seed(0), 0, payloadOf(2, keyOf(i), wide.Of(1)))); code != api.ErrStatus || !w.Forged() {
		t.Errorf("%d, forged: %t", code, w.Forged())
	}
	is(t, "forged", events(w), rootOf(0), fulfilled, cancelled)
	l := Of(events(w), rootOf(0))
	if !slices.Equal(Twice(l), l) || !slices.Equal(Both(l), []string{keyOf(i)}) || Leaves(l) != 1 {
		t.Errorf("%s, %x, %d", shown(Twice(l)), Both(l), Leaves(l))
	}
}

// P27.1: so is what a corrupted user signs twice, though nothing is forged.
func TestCorrupted(t *testing.T) {
	w := made(t, world.Setup{Delay: 2, Corrupt: 1, Room: plenty})
	i := api.Inv{User: 0, Root: rootOf(0), Router: 2, Send: 0, Recv: 1, To: 5, Id: "bad"}
	for act := 1; act <= 2; act++ {
		for side := range 2 {
			brings(t, w, side, act, i, wide.Of(9), sign(t, client.Seed(0), 3, payloadOf(act, keyOf(i), wide.Of(9))))
		}
	}
	want := []Use{{3, 1, keyOf(i), wide.Of(9)}, {3, 2, keyOf(i), wide.Of(9)}}
	is(t, "corrupted", events(w), rootOf(0), want...)
	if w.Forged() || !slices.Equal(Twice(want), want) || !slices.Equal(Both(want), []string{keyOf(i)}) {
		t.Errorf("forged: %t", w.Forged())
	}
}

// secret is what somebody signed: an act for a transfer, with a fee.
type secret struct {
	inv api.Inv
	act int
	fee api.Wide
	sig string
}

// foe plays a script in which whoever is corrupted brings all that anybody signed to both sides, as it is, and for what else it may be.
type foe struct {
	*testing.T
	w       *world.World
	rand    *rand.Rand
	seen    map[string]int
	asks    []api.Ask
	bids    []api.Bid
	secrets []secret
	invs    []api.Inv
	leaves  [4]int
	forger  bool
	forged  [2]bool
}

// begins is a foe of a world of a random setup.
func begins(t *testing.T, seed int, seen map[string]int) *foe {
	r := rand.New(rand.NewSource(int64(seed)))
	s := world.Setup{
		Delay:   1 + r.Intn(4),
		Skew:    r.Intn(201) - 100,
		Corrupt: pick(r, 0, 1, 2, 4, 8, 12, 16, 28, r.Intn(32)),
		Room:    pick(r, plenty, plenty, plenty, 300+r.Intn(900)),
	}
	return &foe{T: t, w: made(t, s), rand: r, seen: seen, forger: r.Intn(4) == 0}
}

// pick is one of l.
func pick[T any](r *rand.Rand, l ...T) T {
	return l[r.Intn(len(l))]
}

// recent is one of the last of l.
func recent[T any](r *rand.Rand, l []T) T {
	return l[len(l)-1-r.Intn(min(4, len(l)))]
}

// add puts x behind l, if it is not there.
func add[T comparable](l []T, x T) []T {
	if slices.Contains(l, x) {
		return l
	}
	return append(l, x)
}

// chance is true n times of 100.
func (f *foe) chance(n int) bool {
	return f.rand.Intn(100) < n
}

// is tells whether an account is corrupted.
func (f *foe) is(n int) bool {
	return f.w.Setup().Corrupt>>n&1 == 1
}

// step is a step, of which the foe learns.
func (f *foe) step(x api.Step) {
	f.w.Step(x)
	for _, l := range f.w.Mail() {
		m, err := mail.Read(l.Data)
		switch {
		case err == api.OK && m.Kind == 1:
			f.asks = add(f.asks, m.Ask)
		case err == api.OK && m.Kind == 2:
			f.bids = add(f.bids, m.Bid)
		case err == api.OK && m.Kind == 3:
			f.secrets = add(f.secrets, secret{m.Inv, 1, m.Fee, m.Sig})
		}
	}
	for side := range 2 {
		for _, t := range f.w.Side(side).Pool() {
			if t.Kind >= 4 {
				f.invs = add(f.invs, t.Inv)
			}
			// What the foe itself brings need not be signed for that.
			if t.Kind >= 5 && t.Sig != "" && t.From < 5 && !f.is(t.From) {
				f.secrets = add(f.secrets, secret{t.Inv, t.Kind - 4, t.Fee, t.Sig})
			}
		}
	}
}

// prepared is a side's data of a transfer, and true, if it was prepared there.
func (f *foe) prepared(side int, i api.Inv) (api.Var, bool) {
	for _, e := range f.w.Side(side).Events(0) {
		if e.Tx.Kind == 4 && e.Code == api.OK && e.Tx.Inv == i {
			return e.Tx.Var, true
		}
	}
	return api.Var{Amount: wide.Of(1), Expiry: 1}, false
}

// submit lets a transaction of a bad account's be included at once, or wait.
func (f *foe) submit(side int, t api.Tx) {
	t.Nonce = f.w.Side(side).Next(t.From)
	if data, err := txs.Octets(t); err == api.OK {
		f.step(api.Step{Kind: 6, B: side, Data: data})
		if f.chance(90) {
			f.step(api.Step{Kind: 8, B: side, A: -1})
		}
	}
}

// bid lets a corrupted router bid for an ask that was heard.
func (f *foe) bid() {
	n := 2 + f.rand.Intn(2)
	if !f.is(n) || len(f.asks) == 0 || f.leaves[n] > 7 {
		return
	}
	a := recent(f.rand, f.asks)
	b, key, err := bid.Sign(api.Key{Seed: bid.Seed(n), Next: f.leaves[n]}, api.Bid{Router: n, Ask: a, Amount: a.Amount, Until: f.w.Side(0).Time() + 20})
	data, err2 := mail.Put(api.Message{Kind: 2, Bid: b})
	if err == api.OK && err2 == api.OK {
		f.leaves[n] = key.Next
		f.step(api.Step{Kind: 7, A: a.User, Data: data})
		f.step(api.Step{Kind: 3, A: -1})
	}
}

// want lets a corrupted user ask.
func (f *foe) want() {
	n := f.rand.Intn(2)
	data, err := mail.Put(api.Message{Kind: 1, Ask: api.Ask{User: n, Send: f.rand.Intn(2), Recv: f.rand.Intn(2), To: f.rand.Intn(8), Amount: wide.Of(uint64(1 + f.rand.Intn(60))), Id: fmt.Sprint("foe", f.rand.Intn(6))}})
	if !f.is(n) || err != api.OK {
		return
	}
	for to := 2; to < 4; to++ {
		f.step(api.Step{Kind: 7, A: to, Data: data})
		f.step(api.Step{Kind: 3, A: -1})
	}
}

// lock lets a corrupted user take a bid.
func (f *foe) lock() {
	if len(f.bids) == 0 {
		return
	}
	b := recent(f.rand, f.bids)
	if a := b.Ask; f.is(a.User) {
		i := api.Inv{User: a.User, Root: rootOf(a.User), Router: b.Router, Send: a.Send, Recv: a.Recv, To: a.To, Id: a.Id}
		f.submit(0, api.Tx{From: a.User, Kind: 4, Inv: i, Var: api.Var{Amount: a.Amount, Expiry: f.w.Side(0).Time() + plan.Long(f.w.Setup().Delay)}})
	}
}

// mirror lets a corrupted router prepare what a user prepared, for whatever time.
func (f *foe) mirror() {
	if len(f.invs) == 0 {
		return
	}
	i := recent(f.rand, f.invs)
	v, ok := f.prepared(0, i)
	if !f.is(i.Router) || !ok {
		return
	}
	v.Expiry = f.w.Side(1).Time() + pick(f.rand, 1, 3, 6, 12, 30)
	f.submit(1, api.Tx{From: i.Router, Kind: 2, Asset: i.Recv, Amount: v.Amount, Inv: api.Inv{Router: i.Router}})
	f.submit(1, api.Tx{From: i.Router, Kind: 4, Inv: i, Var: v})
}

// sign lets a corrupted user sign, by one of few leaves; a forger signs for others, too.
func (f *foe) sign() {
	if len(f.invs) == 0 {
		return
	}
	i := recent(f.rand, f.invs)
	if f.is(i.User) || f.forger && f.chance(30) {
		f.forged[i.User] = true
		act, fee := 1+f.rand.Intn(2), wide.Of(uint64(f.rand.Intn(3)))
		f.secrets = add(f.secrets, secret{i, act, fee, sign(f.T, client.Seed(i.User), f.rand.Intn(3), payloadOf(act, keyOf(i), fee))})
	}
}

// use brings what was signed to a side, sometimes for what it was not signed for, or as a transfer of its own by the same root.
func (f *foe) use() {
	if len(f.secrets) == 0 {
		return
	}
	s, side := recent(f.rand, f.secrets), f.rand.Intn(2)
	switch f.rand.Intn(12) {
	case 0:
		s.act = 3 - s.act
	case 1:
		s.fee = wide.Of(uint64(f.rand.Intn(3)))
	case 2:
		s.inv = recent(f.rand, f.invs)
	case 3:
		s.inv.User = 1 - s.inv.User
	case 4:
		s.inv.Root = rootOf(1 - s.inv.User)
	}
	from := 5 + f.rand.Intn(3)
	if f.is(s.inv.Router) && f.chance(40) {
		from = s.inv.Router
	}
	v, _ := f.prepared(side, s.inv)
	f.submit(side, api.Tx{From: from, Kind: 4 + s.act, Inv: s.inv, Var: v, Fee: s.fee, Sig: s.sig})
}

// moves is what happens ahead of a tick.
func (f *foe) moves() {
	for range f.rand.Intn(3) {
		pick(f.rand, f.bid, f.want, f.lock, f.lock, f.mirror, f.mirror, f.sign, f.sign, f.use, f.use, f.use)()
	}
	if f.chance(35) {
		f.step(api.Step{Kind: 9, A: f.rand.Intn(2), B: 1 + f.rand.Intn(60), C: f.rand.Intn(2)})
	}
	if f.chance(12) {
		f.step(api.Step{Kind: 12, A: f.rand.Intn(2), B: f.rand.Intn(9)})
	}
	for n := range 5 {
		if f.chance(8) {
			f.step(api.Step{Kind: 10, A: n, B: f.rand.Intn(200)})
		}
		if f.chance(80) {
			f.step(api.Step{Kind: 11, A: n})
		}
		if f.chance(60) {
			f.step(api.Step{Kind: 2, A: n})
		}
	}
	for range len(f.w.Mail()) {
		f.step(api.Step{Kind: pick(f.rand, 3, 3, 3, 3, 3, 4, 5), A: f.rand.Intn(9)})
	}
	for range 6 {
		f.step(api.Step{Kind: 8, A: f.rand.Intn(4), B: f.rand.Intn(2)})
	}
}

// audit is what a user signed; it tells it, if that is not clean, though nobody else signed with the user's key: also what the user acts for, later or by another leaf.
func (f *foe) audit(what string, user int) []Use {
	if f.forged[user] {
		return Of(events(f.w), rootOf(user))
	}
	return clean(f.T, what, f.w, user)
}

// count counts what of a user is there.
func (f *foe) count(user int, l []Use) {
	who := fmt.Sprintf("corrupted %t, forged %t: ", f.is(user), f.w.Forged())
	for _, u := range l {
		f.seen[fmt.Sprint(who, "act ", u.Act)]++
	}
	if len(Twice(l)) > 0 {
		f.seen[who+"twice"]++
	}
	if len(Both(l)) > 0 {
		f.seen[who+"both"]++
	}
	if c := f.w.Client(user); c != nil && len(c.Signed()) == 8 {
		f.seen["all leaves are used"]++
	}
}

// play is a random run.
func play(t *testing.T, seed int, seen map[string]int) {
	f := begins(t, seed, seen)
	for tick := range 60 {
		f.moves()
		f.step(api.Step{Kind: pick(f.rand, 1, 1, 1, 1, 13)})
		if tick%10 != 9 {
			continue
		}
		for user := range 2 {
			f.audit(fmt.Sprintf("seed %d, tick %d", seed, tick), user)
		}
	}
	for user := range 2 {
		l := f.audit(fmt.Sprint("seed ", seed), user)
		is(t, fmt.Sprint("seed ", seed), events(f.w), rootOf(user), l...)
		f.count(user, l)
	}
	if f.w.Clash() {
		t.Error("names clash")
	}
}

// P27.2: whatever the script, and whoever is corrupted, of a user who is not no leaf is there twice, no key with both acts, if nothing was forged.
func TestFoe(t *testing.T) {
	const runs, workers = 120, 8
	var each [workers]map[string]int
	t.Run("runs", func(t *testing.T) {
		for first := range workers {
			each[first] = map[string]int{}
			t.Run(fmt.Sprint(first), func(t *testing.T) {
				t.Parallel()
				for seed := first; seed < runs; seed += workers {
					play(t, seed, each[first])
				}
			})
		}
	})
	seen := map[string]int{}
	for _, l := range each {
		for what, n := range l {
			seen[what] += n
		}
	}
	for _, what := range []string{
		"corrupted false, forged false: act 1", "corrupted false, forged false: act 2", "all leaves are used",
		"corrupted false, forged true: twice", "corrupted false, forged true: both", "corrupted true, forged false: twice", "corrupted true, forged false: both",
	} {
		if seen[what] == 0 {
			t.Errorf("there was none: %s", what)
		}
	}
	if testing.Verbose() {
		t.Log(seen)
	}
}
