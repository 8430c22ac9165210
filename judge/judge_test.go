package judge

import (
	"fmt"
	"math"
	"reflect"
	"slices"
	"strings"
	"testing"

	"narrows/api"
	"narrows/bid"
	"narrows/client"
	"narrows/deal"
	"narrows/mail"
	"narrows/mss"
	"narrows/txs"
	"narrows/wide"
	"narrows/world"
)

// plenty is a disk's room that nothing here uses up.
const plenty = 1 << 16

// made is a world of that setup.
func made(t *testing.T, s world.Setup) *world.World {
	t.Helper()
	w, err := world.New(s)
	if err != api.OK {
		t.Fatalf("New(%v) = %d", s, err)
	}
	return w
}

// steps lets steps happen, each of a kind, A and B.
func steps(w *world.World, l ...[3]int) {
	for _, x := range l {
		w.Step(api.Step{Kind: x[0], A: x[1], B: x[2]})
	}
}

// times is so many steps of a kind.
func times(w *world.World, n int, kind int) {
	for range n {
		steps(w, [3]int{kind, 0, 0})
	}
}

// tell lets a party hear a message at once.
func tell(t *testing.T, w *world.World, to int, m api.Message) {
	t.Helper()
	data, err := mail.Put(m)
	if err != api.OK {
		t.Fatalf("Put(%#v) = %d", m, err)
	}
	w.Step(api.Step{Kind: 7, A: to, Data: data})
	steps(w, [3]int{3, -1, 0})
}

// include lets a transaction be included on a side at once, whoever sends it, and is what came of it.
func include(t *testing.T, w *world.World, side int, x api.Tx) api.Errno {
	t.Helper()
	c := w.Side(side)
	x.Nonce = c.State().Nonces[x.From]
	if !c.Submit(x) || !c.Include(-1) {
		t.Fatalf("it is not included on side %d: %#v", side, x)
	}
	events := c.Events(0)
	return events[len(events)-1].Code
}

// works fails, unless a transaction that is included is done.
func works(t *testing.T, w *world.World, side int, x api.Tx) {
	t.Helper()
	if err := include(t, w, side, x); err != api.OK {
		t.Fatalf("it reverts on side %d with %d: %#v", side, err, x)
	}
}

// is fails, unless these are the verdicts.
func is(t *testing.T, what string, got []Verdict, want ...Verdict) {
	t.Helper()
	if !slices.Equal(got, want) {
		t.Errorf("%s: %s; want %s", what, shown(got), shown(want))
	}
}

// shown is verdicts, short.
func shown(l []Verdict) string {
	var b strings.Builder
	for _, v := range l {
		fmt.Fprintf(&b, "%.4x %d/%d %t ", v.Key, v.Near, v.Far, v.Well)
	}
	return b.String()
}

// numbers is odd numbers, and edges.
func numbers() []int {
	return []int{math.MinInt, -1 << 40, -129, -5, -3, -2, -1, 0, 1, 2, 3, 4, 5, 6, 7, 8, 64, 1 << 16, 1 << 40, math.MaxInt}
}

// atFirst is a side's time at first.
func atFirst(side int, s world.Setup) int {
	return 1000 + side*s.Skew
}

// trade is a transfer of a world, and what is each side's own.
type trade struct {
	*testing.T
	w    *world.World
	inv  api.Inv
	vars [2]api.Var
}

// key is the transfer's.
func (x *trade) key() string {
	return deal.Key(x.inv)
}

// sign is what the key of that seed signs for an act.
func (x *trade) sign(seed string, act int, fee uint64) string {
	x.Helper()
	sig, _, err := mss.Sign(api.Key{Seed: seed}, deal.Payload(act, x.key(), wide.Of(fee)))
	if err != api.OK {
		x.Fatal(err)
	}
	return sig
}

// fulfil fulfils it on a side, by account 6, with what its user's key signs, whether the user wanted to or not.
func (x *trade) fulfil(side int, fee uint64) {
	x.Helper()
	works(x.T, x.w, side, api.Tx{From: 6, Kind: 5, Inv: x.inv, Var: x.vars[side], Fee: wide.Of(fee), Sig: x.sign(client.Seed(x.inv.User), 1, fee)})
}

// cancel cancels it on a side: by its router on the sending one, by its user's key on the other one.
func (x *trade) cancel(side int) {
	x.Helper()
	works(x.T, x.w, side, api.Tx{From: x.inv.Router, Kind: 6, Inv: x.inv, Var: x.vars[side], Sig: x.sign(client.Seed(x.inv.User), 2, 0)})
}

// prepare prepares it on a side, by whom it must be, of so much, for so many ticks from now on.
func (x *trade) prepare(side int, amount uint64, ticks int) {
	x.Helper()
	from := []int{x.inv.User, x.inv.Router}[side]
	x.vars[side] = api.Var{Amount: wide.Of(amount), Expiry: x.w.Side(side).Time() + ticks}
	if side == 1 {
		works(x.T, x.w, 1, api.Tx{From: from, Kind: 2, Asset: x.inv.Recv, Amount: wide.Of(amount), Inv: api.Inv{Router: from}})
	}
	works(x.T, x.w, side, api.Tx{From: from, Kind: 4, Inv: x.inv, Var: x.vars[side]})
}

// until lets ticks go by, till a side's time is that.
func (x *trade) until(side int, time int) {
	x.Helper()
	if x.w.Side(side).Time() > time {
		x.Fatalf("it is later than %d", time)
	}
	for x.w.Side(side).Time() < time {
		steps(x.w, [3]int{1, 0, 0})
	}
}

// asksFor lets a user who is not corrupted ask for something, take router 2's bid of offer for it, and prepare it.
func asksFor(t *testing.T, w *world.World, user int, amount int, offer uint64) *trade {
	t.Helper()
	w.Step(api.Step{Kind: 9, A: user, B: amount, C: 1})
	l := w.Mail()
	m, err := mail.Read(l[len(l)-1].Data)
	if err != api.OK {
		t.Fatal(err)
	}
	b, _, err := bid.Sign(api.Key{Seed: bid.Seed(2)}, api.Bid{Router: 2, Ask: m.Ask, Amount: wide.Of(offer), Until: 2000})
	if err != api.OK {
		t.Fatal(err)
	}
	tell(t, w, user, api.Message{Kind: 2, Bid: b})
	steps(w, [3]int{1, 0, 0}, [3]int{2, user, 0})
	for len(w.Side(0).Pool()) > 0 {
		steps(w, [3]int{8, 0, 0})
	}
	deals := w.Client(user).Deals()
	d := deals[len(deals)-1]
	if d.Offer != wide.Of(offer) || d.Var.Amount != wide.Of(uint64(amount)) {
		t.Fatalf("%#v", d)
	}
	return &trade{T: t, w: w, inv: d.Inv, vars: [2]api.Var{d.Var}}
}

// userWorld is a world in which only users are not corrupted.
func userWorld(t *testing.T, delay int, skew int) *world.World {
	t.Helper()
	return made(t, world.Setup{Delay: delay, Skew: skew, Corrupt: 4 | 8 | 16, Room: plenty})
}

// P26.1: nothing of a world that nobody made, of a new one, and of who is corrupted, or who there is not.
func TestNothing(t *testing.T) {
	for _, w := range []*world.World{nil, {}, made(t, world.Setup{Delay: 1, Room: plenty}), made(t, world.Setup{Delay: 4, Skew: -100})} {
		for _, n := range numbers() {
			if len(User(w, n))+len(Router(w, n)) != 0 {
				t.Errorf("%d: %v, %v", n, User(w, n), Router(w, n))
			}
		}
	}
	if !Well(nil) || !Well([]Verdict{}) || Count(nil, 0, 0) != 0 {
		t.Error("of nothing something is told")
	}
}

// P26.1: each party that is not corrupted prepared something, and only of these there are verdicts, by their own numbers.
func TestParties(t *testing.T) {
	for corrupt := range 32 {
		w := made(t, world.Setup{Delay: 1, Skew: 3 * corrupt, Corrupt: corrupt, Room: plenty})
		var all []*trade
		for place := range 4 {
			x := &trade{T: t, w: w, inv: api.Inv{User: place % 2, Root: mss.Root(client.Seed(place % 2)), Router: 2 + place/2, Recv: 1, To: 5, Id: fmt.Sprint(place)}}
			x.prepare(1, 8, 20)
			x.prepare(0, 9, 20)
			all = append(all, x)
		}
		for _, n := range numbers() {
			var users, routers []Verdict
			for _, x := range all {
				if n == x.inv.User && corrupt>>n&1 == 0 {
					users = append(users, Verdict{x.key(), 1, 1, true})
				}
				// No bid is of these.
				if n == x.inv.Router && corrupt>>n&1 == 0 {
					routers = append(routers, Verdict{x.key(), 1, 1, false})
				}
			}
			is(t, fmt.Sprintf("corrupt %d: User(%d)", corrupt, n), User(w, n), users...)
			is(t, fmt.Sprintf("corrupt %d: Router(%d)", corrupt, n), Router(w, n), routers...)
		}
	}
}

// P26.1: a fair trade, round by round: statuses on both sides, and well all the while, for both.
func TestFair(t *testing.T) {
	for _, amount := range []int{1, 2, 100, 400} {
		for place := range 4 {
			w := made(t, world.Setup{Delay: 1 + place, Skew: 60*place - 100, Room: plenty})
			user := place % 2
			w.Step(api.Step{Kind: 9, A: user, B: amount, C: place / 2})
			for round, want := range [][2]int{{0, 0}, {1, 0}, {1, 1}, {1, 2}, {2, 2}, {2, 2}} {
				times(w, 1, 13)
				var users, routers []Verdict
				if round > 0 {
					users = []Verdict{{deal.Key(w.Client(user).Deals()[0].Inv), want[0], want[1], true}}
				}
				if round > 1 {
					routers = users
				}
				what := fmt.Sprintf("amount %d, round %d", amount, round)
				is(t, what, User(w, user), users...)
				is(t, what, Router(w, 2), routers...)
				is(t, what, User(w, 1-user))
				is(t, what, Router(w, 3))
			}
		}
	}
}

// P26.1, User: well, whatever is on the receiving side, as long as it is not fulfilled on the sending one.
func TestUserKeeps(t *testing.T) {
	for _, x := range []struct {
		name      string
		near, far int
		do        func(x *trade)
	}{
		{"nothing else", 1, 0, func(x *trade) {}},
		{"past", 1, 0, func(x *trade) { x.until(0, x.vars[0].Expiry+9) }},
		{"cancelled", 3, 0, func(x *trade) { x.cancel(0) }},
		{"prepared there", 1, 1, func(x *trade) { x.prepare(1, 1, 5) }},
		{"past there", 1, 1, func(x *trade) { x.prepare(1, 1, 5); times(x.w, 9, 1) }},
		{"fulfilled there, for too little", 1, 2, func(x *trade) { x.prepare(1, 1, 5); x.fulfil(1, 1) }},
		{"cancelled there", 1, 3, func(x *trade) { x.prepare(1, 90, 5); x.cancel(1) }},
		{"cancelled, prepared there", 3, 1, func(x *trade) { x.prepare(1, 90, 5); x.cancel(0); times(x.w, 9, 1) }},
		{"cancelled, fulfilled there", 3, 2, func(x *trade) { x.prepare(1, 1, 5); x.cancel(0); x.fulfil(1, 1) }},
		{"cancelled on both sides", 3, 3, func(x *trade) { x.prepare(1, 90, 5); x.cancel(0); x.cancel(1) }},
	} {
		for user := range 2 {
			d := asksFor(t, userWorld(t, 1+user, 9*user), user, 100, 90)
			x.do(d)
			is(t, x.name, User(d.w, user), Verdict{d.key(), x.near, x.far, true})
		}
	}
}

// P26.1, User: it is fulfilled on the sending side: well, if it is prepared on the receiving one, below its Expiry there, or fulfilled there for no less than was offered, with no more than the fee.
func TestUserPays(t *testing.T) {
	for _, x := range []struct {
		name string
		far  int
		well bool
		do   func(x *trade)
	}{
		{"nothing there", 0, false, func(x *trade) {}},
		{"prepared there", 1, true, func(x *trade) { x.prepare(1, 90, 5) }},
		{"prepared there, of little", 1, true, func(x *trade) { x.prepare(1, 1, 5) }},
		{"for a tick yet", 1, true, func(x *trade) { x.prepare(1, 90, 5); x.until(1, x.vars[1].Expiry-1) }},
		{"just past", 1, false, func(x *trade) { x.prepare(1, 90, 5); x.until(1, x.vars[1].Expiry) }},
		{"past", 1, false, func(x *trade) { x.prepare(1, 90, 5); x.until(1, x.vars[1].Expiry+7) }},
		{"cancelled there", 3, false, func(x *trade) { x.prepare(1, 90, 5); x.cancel(1) }},
		{"past, and cancelled there", 3, false, func(x *trade) { x.prepare(1, 90, 5); x.until(1, x.vars[1].Expiry); x.cancel(1) }},
		{"fulfilled there", 2, true, func(x *trade) { x.prepare(1, 90, 5); x.fulfil(1, 1) }},
		{"for less", 2, false, func(x *trade) { x.prepare(1, 89, 5); x.fulfil(1, 1) }},
		{"for little", 2, false, func(x *trade) { x.prepare(1, 1, 5); x.fulfil(1, 0) }},
		{"for more", 2, true, func(x *trade) { x.prepare(1, 91, 5); x.fulfil(1, 1) }},
		{"for more than was asked for", 2, true, func(x *trade) { x.prepare(1, 300, 5); x.fulfil(1, 1) }},
		{"without a fee", 2, true, func(x *trade) { x.prepare(1, 90, 5); x.fulfil(1, 0) }},
		{"with more than the fee", 2, false, func(x *trade) { x.prepare(1, 90, 5); x.fulfil(1, 2) }},
		{"for more, with more than the fee", 2, false, func(x *trade) { x.prepare(1, 300, 5); x.fulfil(1, 2) }},
		{"all of it is a fee", 2, false, func(x *trade) { x.prepare(1, 90, 5); x.fulfil(1, 90) }},
		{"for less, without a fee", 2, false, func(x *trade) { x.prepare(1, 89, 5); x.fulfil(1, 0) }},
		{"fulfilled, and long ago", 2, true, func(x *trade) { x.prepare(1, 90, 5); x.fulfil(1, 1); times(x.w, 60, 1) }},
	} {
		for user := range 2 {
			for _, skew := range []int{-100, 0, 100} {
				d := asksFor(t, userWorld(t, 1+user, skew), user, 100, 90)
				d.fulfil(0, 1)
				x.do(d)
				is(t, x.name, User(d.w, user), Verdict{d.key(), 2, x.far, x.well})
				// On the sending side it may be fulfilled later, too.
				d = asksFor(t, userWorld(t, 4, skew), user, 100, 90)
				x.do(d)
				if d.w.Side(0).Time() < d.vars[0].Expiry {
					d.fulfil(0, 5)
					is(t, x.name+", then here", User(d.w, user), Verdict{d.key(), 2, x.far, x.well})
				}
			}
		}
	}
}

// P26.1, User: where 1 is offered, the fee is 0; and what was offered counts, not what was asked for.
func TestUserOffer(t *testing.T) {
	for offer := uint64(1); offer < 5; offer++ {
		for amount := uint64(1); amount < 6; amount++ {
			for fee := range min(amount+1, 4) {
				d := asksFor(t, userWorld(t, 1, 0), 0, 5, offer)
				d.prepare(1, amount, 5)
				d.fulfil(1, fee)
				d.fulfil(0, fee)
				most := uint64(1)
				if offer == 1 {
					most = 0
				}
				is(t, fmt.Sprintf("offered %d, paid %d, fee %d", offer, amount, fee), User(d.w, 0), Verdict{d.key(), 2, 2, amount >= offer && fee <= most})
			}
		}
	}
}

// P26.1, User: to To, of wide numbers, too.
func TestPays(t *testing.T) {
	i := api.Inv{To: 5}
	for word := range 4 {
		offer := api.Wide{7, 7, 7, 7}
		less, more := offer, offer
		less[word]--
		more[word]++
		for _, x := range []struct {
			name   string
			to     int
			amount api.Wide
			fee    api.Wide
			want   bool
		}{
			{"alike", 5, offer, offer, true},
			{"more", 5, more, offer, true},
			{"less", 5, less, offer, false},
			{"less of a fee", 5, offer, less, true},
			{"more of a fee", 5, offer, more, false},
			{"to another one", 6, offer, offer, false},
			{"to nobody", 0, more, less, false},
		} {
			by := api.Tx{Inv: api.Inv{To: x.to}, Var: api.Var{Amount: x.amount}, Fee: x.fee}
			if got := pays(by, client.Deal{Offer: offer, Inv: i}, offer); got != x.want {
				t.Errorf("word %d, %s: %t", word, x.name, got)
			}
		}
	}
}

// P26.1, User: each by its own deal, in the order in which they were prepared; what reverts, and what others prepare, is none of it.
func TestUserEach(t *testing.T) {
	w := userWorld(t, 4, -5)
	first := asksFor(t, w, 0, 100, 50)
	other := asksFor(t, w, 1, 100, 70)
	second := asksFor(t, w, 0, 100, 90)
	// That is more than user 0 has.
	tooMuch := asksFor(t, w, 0, 5000, 90)
	third := asksFor(t, w, 0, 60, 60)
	for _, x := range []*trade{third, second, first, other} {
		x.prepare(1, 60, 9)
		x.fulfil(1, 1)
	}
	keys := func(l ...*trade) []string {
		var keys []string
		for _, x := range l {
			keys = append(keys, x.key())
		}
		return keys
	}
	var got []string
	for _, v := range User(w, 0) {
		got = append(got, v.Key)
	}
	if !slices.Equal(got, keys(first, second, third)) || slices.Contains(got, tooMuch.key()) {
		t.Errorf("%x", got)
	}
	is(t, "none is paid out", User(w, 0), Verdict{first.key(), 1, 2, true}, Verdict{second.key(), 1, 2, true}, Verdict{third.key(), 1, 2, true})
	for _, x := range []*trade{second, third, other, first} {
		x.fulfil(0, 1)
	}
	is(t, "user 0", User(w, 0), Verdict{first.key(), 2, 2, true}, Verdict{second.key(), 2, 2, false}, Verdict{third.key(), 2, 2, true})
	is(t, "user 1", User(w, 1), Verdict{other.key(), 2, 2, false})
}

// P26.1, User: what is prepared without a deal was not offered: it is well, as long as it is not fulfilled on the sending side, or may be on the receiving one.
func TestUserNoDeal(t *testing.T) {
	for place, change := range []func(i *api.Inv){
		func(i *api.Inv) { i.Router = 3 },
		func(i *api.Inv) { i.Send = 0 },
		func(i *api.Inv) { i.Recv = 0 },
		func(i *api.Inv) { i.To = 4 },
		func(i *api.Inv) { i.Id += "x" },
		func(i *api.Inv) { i.Id = "x" },
	} {
		d := asksFor(t, userWorld(t, 4, 7), 0, 100, 90)
		x := &trade{T: t, w: d.w, inv: d.inv}
		change(&x.inv)
		x.prepare(0, 100, 30)
		deal := Verdict{d.key(), 1, 0, true}
		is(t, fmt.Sprint("prepared ", place), User(d.w, 0), deal, Verdict{x.key(), 1, 0, true})
		x.fulfil(0, 1)
		is(t, fmt.Sprint("fulfilled here ", place), User(d.w, 0), deal, Verdict{x.key(), 2, 0, false})
		x.prepare(1, 100, 9)
		is(t, fmt.Sprint("prepared there ", place), User(d.w, 0), deal, Verdict{x.key(), 2, 1, true})
		x.fulfil(1, 0)
		is(t, fmt.Sprint("fulfilled there ", place), User(d.w, 0), deal, Verdict{x.key(), 2, 2, false})
	}
	// By another root, whose key is not the user's.
	d := asksFor(t, userWorld(t, 4, 7), 0, 100, 90)
	x := &trade{T: t, w: d.w, inv: d.inv}
	x.inv.Root = mss.Root("other")
	for side, from := range []int{0, 2} {
		x.prepare(side, 100, 30)
		works(t, d.w, side, api.Tx{From: from, Kind: 5, Inv: x.inv, Var: x.vars[side], Sig: x.sign("other", 1, 0)})
	}
	is(t, "another root", User(d.w, 0), Verdict{d.key(), 1, 0, true}, Verdict{x.key(), 2, 2, false})
}

// routerWorld is a world in which only routers are not corrupted.
func routerWorld(t *testing.T, s world.Setup) *world.World {
	t.Helper()
	s.Corrupt, s.Room = 1|2|16, plenty
	return made(t, s)
}

// bidsFor lets a router who is not corrupted bid for what a user asks for, and is a trade of it, of which nothing is prepared.
func bidsFor(t *testing.T, w *world.World, router int, a api.Ask) *trade {
	t.Helper()
	many := len(w.Router(router).Bids())
	tell(t, w, router, api.Message{Kind: 1, Ask: a})
	steps(w, [3]int{2, router, 0}, [3]int{4, -1, 0})
	if l := w.Router(router).Bids(); len(l) != many+1 || l[many].Ask != a {
		t.Fatalf("%#v", l)
	}
	return &trade{T: t, w: w, inv: api.Inv{User: a.User, Root: mss.Root(client.Seed(a.User)), Router: router, Send: a.Send, Recv: a.Recv, To: a.To, Id: a.Id}}
}

// anAsk is one that a user could tell.
func anAsk() api.Ask {
	return api.Ask{User: 1, Send: 0, Recv: 1, To: 4, Amount: wide.Of(200), Id: "ask"}
}

// lasting is how long a sending side lasts here.
const lasting = 60

// offered is what router 2 bids for anAsk.
const offered = 200

// mirrored is a trade that router 2 mirrored as it bid, for that many ticks.
func mirrored(t *testing.T, s world.Setup, ticks int) *trade {
	t.Helper()
	x := bidsFor(t, routerWorld(t, s), 2, anAsk())
	x.prepare(0, 200, lasting)
	x.prepare(1, offered, ticks)
	return x
}

// P26.1, Router: as long as it is not fulfilled on the receiving side, whatever is on the sending one.
func TestRouterKeeps(t *testing.T) {
	for _, x := range []struct {
		name      string
		near, far int
		do        func(x *trade)
	}{
		{"prepared", 1, 1, func(x *trade) {}},
		{"past there", 1, 1, func(x *trade) { x.until(1, x.vars[1].Expiry+5) }},
		{"past on both sides", 1, 1, func(x *trade) { x.until(0, x.vars[0].Expiry+5) }},
		{"fulfilled here", 2, 1, func(x *trade) { x.fulfil(0, 1) }},
		{"cancelled here", 3, 1, func(x *trade) { x.cancel(0) }},
		{"cancelled there", 1, 3, func(x *trade) { x.cancel(1) }},
		{"cancelled there, fulfilled here", 2, 3, func(x *trade) { x.cancel(1); x.fulfil(0, 2) }},
		{"cancelled on both sides", 3, 3, func(x *trade) { x.cancel(1); x.cancel(0) }},
	} {
		d := mirrored(t, world.Setup{Delay: 2, Skew: -50}, 20)
		x.do(d)
		is(t, x.name, Router(d.w, 2), Verdict{d.key(), x.near, x.far, true})
		is(t, x.name, Router(d.w, 3))
	}
}

// P26.1, Router: it is fulfilled on the receiving side: well, if it is on the sending one, or prepared there, below its Expiry.
func TestRouterPays(t *testing.T) {
	for _, skew := range []int{-100, -1, 0, 1, 100} {
		for _, x := range []struct {
			name string
			near int
			well bool
			do   func(x *trade)
		}{
			{"prepared here", 1, true, func(x *trade) {}},
			{"for a tick yet", 1, true, func(x *trade) { x.until(0, x.vars[0].Expiry-1) }},
			{"just past", 1, false, func(x *trade) { x.until(0, x.vars[0].Expiry) }},
			{"past", 1, false, func(x *trade) { x.until(0, x.vars[0].Expiry+9) }},
			{"fulfilled here", 2, true, func(x *trade) { x.fulfil(0, 1) }},
			{"fulfilled here, and long ago", 2, true, func(x *trade) { x.fulfil(0, 1); x.until(0, x.vars[0].Expiry+9) }},
			{"fulfilled here with another fee", 2, true, func(x *trade) { x.fulfil(0, 9) }},
			{"cancelled here", 3, false, func(x *trade) { x.cancel(0) }},
			{"past, and cancelled here", 3, false, func(x *trade) { x.until(0, x.vars[0].Expiry); x.cancel(0) }},
		} {
			for _, fee := range []uint64{0, 1, offered} {
				d := mirrored(t, world.Setup{Delay: 2, Skew: skew}, 20)
				d.fulfil(1, fee)
				x.do(d)
				is(t, x.name, Router(d.w, 2), Verdict{d.key(), x.near, 2, x.well})
			}
		}
	}
}

// P26.1, Router: the sending side lasts longer, in ticks, by more than twice Delay; whatever the sides' times are now.
func TestRouterOutlasts(t *testing.T) {
	for delay := 1; delay <= 4; delay++ {
		for _, skew := range []int{-100, -9, -8, -1, 0, 1, 8, 9, 100} {
			s := world.Setup{Delay: delay, Skew: skew}
			for _, ahead := range []int{-50, -1, 0, 1, delay, 2*delay - 1, 2 * delay, 2*delay + 1, 2*delay + 2, 3*delay + 2, 50} {
				for _, ticks := range []int{0, 7} {
					x := bidsFor(t, routerWorld(t, s), 2, anAsk())
					x.prepare(0, 200, lasting)
					times(x.w, ticks, 1)
					x.prepare(1, offered, lasting-ticks-ahead)
					if got := x.vars[0].Expiry - atFirst(0, s) - (x.vars[1].Expiry - atFirst(1, s)); got != ahead {
						t.Fatalf("%d ticks, not %d", got, ahead)
					}
					want := Verdict{x.key(), 1, 1, ahead > 2*delay}
					what := fmt.Sprintf("delay %d, skew %d, ahead %d", delay, skew, ahead)
					is(t, what, Router(x.w, 2), want)
					// A side whose time goes its own way changes nothing.
					x.w.Side(0).Rise(13)
					is(t, what+", the sending side rises", Router(x.w, 2), want)
					x.w.Side(1).Rise(200)
					is(t, what+", the receiving side rises", Router(x.w, 2), want)
				}
			}
		}
	}
}

// P26.1, Router: a bid of that router is of the ask, all of it, and of what was prepared.
func TestRouterMatches(t *testing.T) {
	for place, change := range []func(i *api.Inv, near *uint64, far *uint64){
		func(i *api.Inv, near *uint64, far *uint64) {},
		func(i *api.Inv, near *uint64, far *uint64) { i.User = 0 },
		func(i *api.Inv, near *uint64, far *uint64) { i.Send = 1 },
		func(i *api.Inv, near *uint64, far *uint64) { i.Recv = 0 },
		func(i *api.Inv, near *uint64, far *uint64) { i.To = 3 },
		func(i *api.Inv, near *uint64, far *uint64) { i.Id = "task" },
		func(i *api.Inv, near *uint64, far *uint64) { i.Id = "as" },
		func(i *api.Inv, near *uint64, far *uint64) { *near-- },
		func(i *api.Inv, near *uint64, far *uint64) { *near++ },
		func(i *api.Inv, near *uint64, far *uint64) { *far-- },
		func(i *api.Inv, near *uint64, far *uint64) { *far++ },
		func(i *api.Inv, near *uint64, far *uint64) { *near--; *far-- },
		func(i *api.Inv, near *uint64, far *uint64) { i.Router = 3 },
	} {
		x := bidsFor(t, routerWorld(t, world.Setup{Delay: 1}), 2, anAsk())
		near, far := uint64(200), uint64(offered)
		change(&x.inv, &near, &far)
		x.prepare(0, near, lasting)
		x.prepare(1, far, 20)
		is(t, fmt.Sprint("change ", place), Router(x.w, x.inv.Router), Verdict{x.key(), 1, 1, place == 0})
	}
	// A user's root is none of the ask's.
	x := bidsFor(t, routerWorld(t, world.Setup{Delay: 1}), 2, anAsk())
	x.inv.Root = "any root"
	x.prepare(0, 200, lasting)
	x.prepare(1, offered, 20)
	is(t, "another root", Router(x.w, 2), Verdict{x.key(), 1, 1, true})
}

// P26.1, Router: any bid of its may be the one, but none of the other router's.
func TestRouterBids(t *testing.T) {
	w := routerWorld(t, world.Setup{Delay: 3, Skew: 4})
	var all []*trade
	for n := range 6 {
		a := anAsk()
		a.Amount = wide.Of(uint64(10 + n%2))
		a.Id = fmt.Sprint(n / 2)
		all = append(all, bidsFor(t, w, 2+n/2%2, a))
	}
	var want [2][]Verdict
	for n, x := range all {
		if n%2 == 0 {
			// Of two asks of one Id one is taken, this one or that one.
			amount := uint64(10 + n/2%2)
			x.prepare(0, amount, lasting)
			x.prepare(1, amount, 20)
			want[n/2%2] = append(want[n/2%2], Verdict{x.key(), 1, 1, true})
		}
	}
	stolen := all[2]
	stolen.inv.Router, stolen.vars = 2, [2]api.Var{}
	stolen.prepare(0, 11, lasting)
	stolen.prepare(1, 11, 20)
	is(t, "router 2", Router(w, 2), append(want[0], Verdict{stolen.key(), 1, 1, false})...)
	is(t, "router 3", Router(w, 3), want[1]...)
}

// P26.1, Router: without anything on the sending side it is not well, whatever it is on the receiving one; and it may be there later.
func TestRouterAlone(t *testing.T) {
	begin := func(ticks int) *trade {
		x := bidsFor(t, routerWorld(t, world.Setup{Delay: 1, Skew: 100}), 2, anAsk())
		x.prepare(1, offered, ticks)
		return x
	}
	x := begin(20)
	is(t, "prepared", Router(x.w, 2), Verdict{x.key(), 0, 1, false})
	x.prepare(0, 200, lasting)
	is(t, "then here", Router(x.w, 2), Verdict{x.key(), 1, 1, true})
	x = begin(20)
	x.fulfil(1, 1)
	is(t, "fulfilled", Router(x.w, 2), Verdict{x.key(), 0, 2, false})
	x.prepare(0, 200, lasting)
	x.fulfil(0, 1)
	is(t, "then here", Router(x.w, 2), Verdict{x.key(), 2, 2, true})
	x = begin(20)
	x.cancel(1)
	is(t, "cancelled", Router(x.w, 2), Verdict{x.key(), 0, 3, false})
	// What reverts on the sending side is not prepared there.
	x = begin(20)
	if err := include(t, x.w, 0, api.Tx{From: 1, Kind: 4, Inv: x.inv, Var: api.Var{Amount: wide.Of(200), Expiry: 3000}}); err != api.ErrExpiry {
		t.Fatal(err)
	}
	is(t, "it reverts", Router(x.w, 2), Verdict{x.key(), 0, 1, false})
}

// P26.1, Router: each in the order in which they were prepared on the receiving side, but for what reverts.
func TestRouterEach(t *testing.T) {
	w := routerWorld(t, world.Setup{Delay: 1, Skew: -7})
	var l []*trade
	for n := range 4 {
		a := anAsk()
		a.Id, a.Amount = fmt.Sprint(n), wide.Of(50)
		x := bidsFor(t, w, 2, a)
		x.prepare(0, 50, lasting)
		l = append(l, x)
	}
	if err := include(t, w, 1, api.Tx{From: 2, Kind: 4, Inv: l[1].inv, Var: api.Var{Amount: wide.Of(4000), Expiry: 1010}}); err != api.ErrVault {
		t.Fatal(err)
	}
	for _, n := range []int{3, 0, 2} {
		l[n].prepare(1, 50, 20+n)
	}
	l[0].fulfil(1, 1)
	l[2].fulfil(1, 1)
	l[2].cancel(0)
	l[1].cancel(0)
	is(t, "each", Router(w, 2), Verdict{l[3].key(), 1, 1, true}, Verdict{l[0].key(), 1, 2, true}, Verdict{l[2].key(), 3, 2, false})
}

// P26.1, Well: all are.
func TestWell(t *testing.T) {
	for n := range 9 {
		l := make([]Verdict, n)
		for i := range l {
			l[i] = Verdict{Key: "key", Near: i % 4, Far: i / 2, Well: true}
		}
		if !Well(l) {
			t.Errorf("%d: all are well", n)
		}
		for i := range l {
			l[i].Well = false
			if Well(l) {
				t.Errorf("%d: that at %d is not well", n, i)
			}
			l[i] = Verdict{Well: true}
		}
		if !Well(l) {
			t.Errorf("%d: all are well without keys", n)
		}
	}
	if Well([]Verdict{{}}) || Well([]Verdict{{Key: "key", Near: 2, Far: 2}}) || Well(make([]Verdict, 5)) {
		t.Error("none is well")
	}
}

// P26.1, Count: how many have both statuses, whatever they are.
func TestCount(t *testing.T) {
	var l []Verdict
	want := map[[2]int]int{}
	for i, near := range numbers() {
		for j, far := range numbers() {
			n := (i*7 + j) % 4
			want[[2]int{near, far}] = n
			for k := range n {
				l = append(l, Verdict{Key: fmt.Sprint(k), Near: near, Far: far, Well: k%2 == i%2})
			}
		}
	}
	for x, n := range want {
		if got := Count(l, x[0], x[1]); got != n {
			t.Errorf("Count(%v) = %d, not %d", x, got, n)
		}
	}
	if Count(l, 9, 9) != 0 || Count([]Verdict{{}}, 0, 0) != 1 || Count([]Verdict{{Near: 1}}, 0, 1) != 0 {
		t.Error("others are counted")
	}
}

// view is all that is to be seen of a world.
func view(w *world.World) string {
	s := fmt.Sprint(w.Now(), w.Mail(), w.Forged(), w.Clash(), w.Setup())
	for n := range 4 {
		s += fmt.Sprint(w.Late(n))
		if c := w.Client(n); c != nil {
			s += fmt.Sprintf("%t %#v %q", c.Down(), c.Deals(), c.Signed())
		}
		if r := w.Router(n); r != nil {
			s += fmt.Sprintf("%t %#v %#v", r.Down(), r.Bids(), r.Mirrors())
		}
	}
	for side := range 2 {
		s += fmt.Sprintf("%#v %#v %#v", w.Side(side).State(), w.Side(side).Pool(), w.Side(side).Events(0))
	}
	return s
}

// busy is a world with some trades, in which all looked, and some of what they sent waits.
func busy(t *testing.T) *world.World {
	t.Helper()
	w := made(t, world.Setup{Delay: 2, Skew: 5, Room: plenty})
	for n := range 3 {
		w.Step(api.Step{Kind: 9, A: n % 2, B: 100 + n, C: n})
		times(w, 2, 13)
	}
	for n := range 5 {
		steps(w, [3]int{2, n, 0})
	}
	if len(w.Side(0).Pool())+len(w.Side(1).Pool()) == 0 || len(User(w, 0)) != 2 || len(User(w, 1)) != 1 || len(Router(w, 2)) < 2 {
		t.Fatal(view(w))
	}
	return w
}

// P26.3: the world is left as it is, and answers share nothing with it, nor with each other.
func TestWorldStays(t *testing.T) {
	w := busy(t)
	before := view(w)
	want := [][]Verdict{User(w, 0), User(w, 1), Router(w, 2), Router(w, 3)}
	again := func() [][]Verdict { return [][]Verdict{User(w, 0), User(w, 1), Router(w, 2), Router(w, 3)} }
	for range 2 {
		l := again()
		if !reflect.DeepEqual(l, want) || view(w) != before {
			t.Fatal("it is another one")
		}
		for _, all := range l {
			all = all[:cap(all)]
			for i := range all {
				all[i] = Verdict{"none", 7, 7, false}
			}
		}
	}
	// It goes on as one that nobody judged.
	other := busy(t)
	times(w, 9, 13)
	times(other, 9, 13)
	if view(w) != view(other) {
		t.Error("it goes on as another one")
	}
	l := again()
	times(w, 90, 13)
	if reflect.DeepEqual(again()[0], want[0]) || !Well(l[0]) {
		t.Error("nothing came of it")
	}
}

// P26.3: Well and Count leave their list as it is, as far as it has room.
func TestListStays(t *testing.T) {
	l := make([]Verdict, 3, 9)
	for i := range l[:9] {
		l[:9][i] = Verdict{fmt.Sprint(i), i, i, i%2 == 0}
	}
	before := slices.Clone(l[:9])
	for range 2 {
		if Well(l) || Count(l, 1, 1) != 1 || Count(l, 5, 5) != 0 || !Well(l[2:]) || !slices.Equal(l[:9], before) {
			t.Errorf("%v", l[:9])
		}
	}
}

// P3: the same, also of calls side by side.
func TestSideBySide(t *testing.T) {
	w := busy(t)
	want := shown(slices.Concat(User(w, 0), User(w, 1), Router(w, 2), Router(w, 3)))
	all := make(chan string)
	for range 8 {
		go func() {
			got := ""
			for range 20 {
				got = shown(slices.Concat(User(w, 0), User(w, 1), Router(w, 2), Router(w, 3)))
			}
			all <- got
		}()
	}
	for range 8 {
		if got := <-all; got != want {
			t.Errorf("%s; want %s", got, want)
		}
	}
}

// octets is a transaction's.
func octets(t *testing.T, x api.Tx) []byte {
	t.Helper()
	b, err := txs.Octets(x)
	if err != api.OK {
		t.Fatalf("Octets(%#v) = %d", x, err)
	}
	return b
}
