package judge

import (
	"fmt"
	"testing"

	"narrows/api"
	"narrows/bid"
	"narrows/client"
	"narrows/deal"
	"narrows/mail"
	"narrows/mss"
	"narrows/plan"
	"narrows/wide"
	"narrows/world"
)

// table is a world in which one party is not corrupted: it looks each Delay ticks, and what it sends is included a Delay later, so that it is just not late. A foe moves ahead of that, and behind it.
type table struct {
	*testing.T
	w      *world.World
	n      int
	phase  int
	falls  bool
	grace  int
	ahead  func()
	behind func()
	since  map[api.Send]int
}

// lays is a table of a party whose looks are at that phase; what it sends is included so many ticks later than it must.
func lays(t *testing.T, s world.Setup, n int, phase int, falls bool, grace int) *table {
	s.Corrupt, s.Room = 31&^(1<<n), plenty
	return &table{T: t, w: made(t, s), n: n, phase: phase, falls: falls, grace: grace, ahead: func() {}, behind: func() {}, since: map[api.Send]int{}}
}

// looks tells whether the party looks at this tick.
func (x *table) looks() bool {
	return x.w.Now()%x.w.Setup().Delay == x.phase
}

// include includes what of the party's must be.
func (x *table) include() {
	for side := range 2 {
		c := x.w.Side(side)
		for place := len(c.Pool()) - 1; place >= 0; place-- {
			s := api.Send{Side: side, Tx: c.Pool()[place]}
			if since, ok := x.since[s]; !ok {
				x.since[s] = x.w.Now()
			} else if x.w.Now()-since >= x.w.Setup().Delay+x.grace {
				steps(x.w, [3]int{8, place, side})
			}
		}
	}
}

// tick is all that happens up to the next tick, and it. What must be included goes behind the foe's moves.
func (x *table) tick() {
	x.ahead()
	if x.looks() {
		if x.falls {
			steps(x.w, [3]int{10, x.n, 9999}, [3]int{11, x.n, 0})
		}
		steps(x.w, [3]int{2, x.n, 0})
	}
	x.behind()
	x.include()
	x.judge()
	steps(x.w, [3]int{1, 0, 0})
	x.judge()
}

// judge tells it, if the party lost something that it prepared, though it is not late, and nothing was forged (P26.2).
func (x *table) judge() {
	if l := judged(x.w, x.n); !Well(l) && !x.w.Late(x.n) && !x.w.Forged() {
		x.Fatalf("setup %v, phase %d, tick %d: %s", x.w.Setup(), x.phase, x.w.Now(), shown(l))
	}
}

// until lets ticks go by till it is so, and tells whether it came so far.
func (x *table) until(is func() bool) bool {
	for range 200 {
		if is() {
			return true
		}
		x.tick()
	}
	return false
}

// at tells of the first verdict whether both statuses are these.
func (x *table) at(near int, far int) func() bool {
	return func() bool { return Count(judged(x.w, x.n), near, far) == 1 }
}

// tables goes through setups, phases, and whether the party falls each time ahead of its look.
func tables(do func(s world.Setup, phase int, falls bool)) {
	for delay := 1; delay <= 4; delay++ {
		for _, skew := range []int{-100, -1, 0, 1, 100} {
			for phase := range delay {
				do(world.Setup{Delay: delay, Skew: skew}, phase, false)
				do(world.Setup{Delay: delay, Skew: skew}, phase, true)
			}
		}
	}
}

// prepares lets a user's deal be prepared on both sides, on the receiving one at the tick of a look, for so many ticks.
func (x *table) prepares(ticks int) *trade {
	w, n, falls := x.w, x.n, x.falls
	// Who falls knows no more what it asked for.
	x.falls = false
	w.Step(api.Step{Kind: 9, A: n, B: 100, C: 1})
	m, _ := mail.Read(w.Mail()[0].Data)
	b, _, _ := bid.Sign(api.Key{Seed: bid.Seed(2)}, api.Bid{Router: 2, Ask: m.Ask, Amount: wide.Of(99), Until: 2000})
	x.ahead = func() {
		if len(w.Client(n).Deals()) == 0 {
			tell(x.T, w, n, api.Message{Kind: 2, Bid: b})
		}
	}
	if !x.until(func() bool { return x.at(1, 0)() && x.looks() }) {
		x.Fatalf("setup %v, phase %d: it is not prepared", w.Setup(), x.phase)
	}
	d := w.Client(n).Deals()[0]
	one := &trade{T: x.T, w: w, inv: d.Inv, vars: [2]api.Var{d.Var}}
	one.prepare(1, 99, ticks)
	x.falls = falls
	return one
}

// steals lets the foe bring what the user signed to the sending side as soon as it is there.
func (x *table) steals(one *trade) {
	x.behind = func() {
		for _, t := range x.w.Side(1).Pool() {
			if x.at(1, 1)() && t.Kind == 5 {
				works(x.T, x.w, 0, api.Tx{From: 3, Kind: 5, Inv: one.inv, Var: one.vars[0], Fee: t.Fee, Sig: t.Sig})
			}
		}
	}
}

// P26.2: a user is just not late; the router lets its own last just so long that the user signs, and takes the signature to the sending side at once.
func TestUserAtTheLastMoment(t *testing.T) {
	tables(func(s world.Setup, phase int, falls bool) {
		x := lays(t, s, 1, phase, falls, 0)
		one := x.prepares(s.Delay + 2)
		x.steals(one)
		begin := x.w.Now()
		x.tick()
		is(t, "it is stolen", User(x.w, 1), Verdict{one.key(), 2, 1, true})
		if !x.until(x.at(2, 2)) || x.w.Now() != begin+s.Delay+1 || x.w.Late(1) || x.w.Forged() {
			t.Errorf("setup %v, phase %d, tick %d: %s", s, phase, x.w.Now(), shown(User(x.w, 1)))
		}
		// A tick less, and the user does not sign.
		x = lays(t, s, 1, phase, falls, 0)
		one = x.prepares(s.Delay + 1)
		x.steals(one)
		if !x.until(x.at(3, 1)) || len(x.w.Client(1).Signed()) != 0 || x.w.Late(1) {
			t.Errorf("setup %v, phase %d: %s", s, phase, shown(User(x.w, 1)))
		}
	})
}

// P26.2: a user whose transaction waits for longer is late, and loses only behind that.
func TestUserLate(t *testing.T) {
	tables(func(s world.Setup, phase int, falls bool) {
		x := lays(t, s, 0, phase, falls, 0)
		one := x.prepares(s.Delay + 2)
		x.steals(one)
		x.grace = 999
		lost := x.until(func() bool { return !Well(User(x.w, 0)) })
		if !lost || !x.w.Late(0) || x.w.Forged() || x.w.Side(1).Time() != one.vars[1].Expiry || Count(User(x.w, 0), 2, 1) != 1 {
			t.Errorf("setup %v, phase %d, time %d: %s", s, phase, x.w.Side(1).Time(), shown(User(x.w, 0)))
		}
		// A tick late, it does not lose yet.
		x = lays(t, s, 0, phase, falls, 0)
		one = x.prepares(s.Delay + 2)
		x.steals(one)
		x.grace = 1
		if !x.until(x.at(2, 2)) || !x.w.Late(0) || x.w.Side(1).Time() != one.vars[1].Expiry {
			t.Errorf("setup %v, phase %d, time %d, a tick late: %s", s, phase, x.w.Side(1).Time(), shown(User(x.w, 0)))
		}
	})
}

// locks lets a user take a router's bid at the tick of a look, by a transfer that lasts for so many ticks on the sending side.
func (x *table) locks(ticks int) *trade {
	w := x.w
	tell(x.T, w, x.n, api.Message{Kind: 1, Ask: anAsk()})
	if !x.until(func() bool { return len(w.Router(x.n).Bids()) == 1 && x.looks() }) {
		x.Fatalf("setup %v, phase %d: nothing is bid", w.Setup(), x.phase)
	}
	one := &trade{T: x.T, w: w, inv: api.Inv{User: 1, Root: mss.Root(client.Seed(1)), Router: x.n, Recv: 1, To: 4, Id: "ask"}}
	one.prepare(0, 200, ticks)
	return one
}

// P26.2: a router is just not late; the user lets its own last just so long that the router mirrors it, and lets it be fulfilled on the receiving side just ahead of its Expiry.
func TestRouterAtTheLastMoment(t *testing.T) {
	tables(func(s world.Setup, phase int, falls bool) {
		least := plan.Short(s.Delay) + 3*s.Delay + 2
		x := lays(t, s, 3, phase, falls, 0)
		one := x.locks(least)
		if !x.until(x.at(1, 1)) {
			t.Fatalf("setup %v, phase %d: it is not mirrored", s, phase)
		}
		one.vars[1] = x.w.Router(3).Mirrors()[0].Var
		if !x.until(func() bool { return x.w.Side(1).Time() == one.vars[1].Expiry-1 }) {
			t.Fatal("time stands still")
		}
		x.behind = func() {
			if x.at(1, 1)() {
				one.fulfil(1, 1)
			}
		}
		begin := x.w.Now()
		x.tick()
		is(t, "it is fulfilled there", Router(x.w, 3), Verdict{one.key(), 1, 2, true})
		if !x.until(x.at(2, 2)) || x.w.Now() > begin+2*s.Delay+1 || x.w.Late(3) {
			t.Errorf("setup %v, phase %d, tick %d: %s", s, phase, x.w.Now(), shown(Router(x.w, 3)))
		}
		// A tick less, and the router does not mirror it.
		x = lays(t, s, 3, phase, falls, 0)
		x.locks(least - 1)
		for range 2 * least {
			x.tick()
		}
		if len(Router(x.w, 3)) != 0 || len(x.w.Router(3).Mirrors()) != 0 || x.w.Late(3) {
			t.Errorf("setup %v, phase %d: %s", s, phase, shown(Router(x.w, 3)))
		}
	})
}

// P26.2: a router whose transaction waits for longer is late, and loses only behind that.
func TestRouterLate(t *testing.T) {
	tables(func(s world.Setup, phase int, falls bool) {
		x := lays(t, s, 2, phase, falls, 0)
		one := x.locks(plan.Short(s.Delay) + 3*s.Delay + 2)
		if !x.until(x.at(1, 1)) {
			t.Fatal("it is not mirrored")
		}
		one.vars[1] = x.w.Router(2).Mirrors()[0].Var
		one.fulfil(1, 0)
		x.grace = 999
		lost := x.until(func() bool { return !Well(Router(x.w, 2)) })
		if !lost || !x.w.Late(2) || x.w.Side(0).Time() != one.vars[0].Expiry || Count(Router(x.w, 2), 1, 2) != 1 {
			t.Errorf("setup %v, phase %d, time %d: %s", s, phase, x.w.Side(0).Time(), shown(Router(x.w, 2)))
		}
	})
}

// The examples of the whole, as far as they are judged: a router that is gone, a user who recalls.
func TestExamples(t *testing.T) {
	for delay := 1; delay <= 4; delay++ {
		w := made(t, world.Setup{Delay: delay, Skew: 9, Room: plenty})
		w.Step(api.Step{Kind: 9, A: 0, B: 100, C: 1})
		times(w, 2, 13)
		steps(w, [3]int{10, 2, 0})
		key := deal.Key(w.Client(0).Deals()[0].Inv)
		for w.Now() <= plan.Long(delay) {
			is(t, "the router is gone", User(w, 0), Verdict{key, 1, 0, true})
			times(w, 1, 13)
		}
		times(w, 1, 13)
		is(t, "it is past", User(w, 0), Verdict{key, 3, 0, true})
		is(t, "the router that is gone", Router(w, 2))

		for round, want := range map[int]Verdict{1: {key, 1, 3, true}, plan.Long(delay): {key, 3, 3, true}} {
			w = made(t, world.Setup{Delay: delay, Skew: -9, Room: plenty})
			w.Step(api.Step{Kind: 9, A: 0, B: 100, C: 1})
			times(w, 3, 13)
			steps(w, [3]int{12, 0, 0})
			times(w, round, 13)
			what := fmt.Sprintf("recalled, round %d", round)
			is(t, what, User(w, 0), want)
			is(t, what, Router(w, 2), want)
		}
	}
}
