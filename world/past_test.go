package world

import (
	"fmt"
	"reflect"
	"slices"
	"testing"

	"narrows/api"
	"narrows/client"
	"narrows/deal"
	"narrows/escrow"
	"narrows/mss"
	"narrows/wide"
)

// late is who of all numbers is late.
func late(w *World) []int {
	var l []int
	for _, n := range append(numbers(), 6) {
		if w.Late(n) {
			l = append(l, n)
		}
	}
	return l
}

// isLate tells it, if others are late.
func isLate(t *testing.T, w *World, what string, want ...int) {
	t.Helper()
	if got := late(w); !slices.Equal(got, want) {
		t.Errorf("%s: tick %d: %v are late, not %v", what, w.Now(), got, want)
	}
}

// looks lets parties look.
func looks(w *World, l ...int) {
	for _, n := range l {
		w.Step(api.Step{Kind: 2, A: n})
	}
}

// Late: who did not look for more than Delay ticks, and stays so.
func TestLateLooks(t *testing.T) {
	for d := 1; d <= 4; d++ {
		for n := range 4 {
			others := slices.DeleteFunc([]int{0, 1, 2, 3}, func(x int) bool { return x == n })
			for begin := range 7 {
				w := plain(t, d)
				for range begin {
					looks(w, 0, 1, 2, 3)
					steps(w, [3]int{1, 0, 0})
				}
				// The last look is at this tick.
				looks(w, 3, 2, 1, 0)
				for range d {
					steps(w, [3]int{1, 0, 0})
					looks(w, others...)
					isLate(t, w, "a delay went by")
				}
				steps(w, [3]int{1, 0, 0})
				isLate(t, w, "more than that", n)
				for range 9 {
					looks(w, 0, 1, 2, 3)
					steps(w, [3]int{1, 0, 0})
				}
				isLate(t, w, "it looks again", n)
			}
		}
		w := plain(t, d)
		for range 5 {
			for range d {
				steps(w, [3]int{1, 0, 0})
			}
			looks(w, 0, 1, 2, 3)
		}
		isLate(t, w, "in time")
	}
}

// Late: who is corrupted never is, nor the relayer, nor who there is not.
func TestLateParties(t *testing.T) {
	for corrupt := range 32 {
		w := made(t, Setup{Delay: 1, Corrupt: corrupt, Room: plenty})
		steps(w, [3]int{1, 0, 0})
		isLate(t, w, "a delay went by")
		steps(w, [3]int{1, 0, 0})
		var want []int
		for n := range 4 {
			if corrupt>>n&1 == 0 {
				want = append(want, n)
			}
		}
		isLate(t, w, "more than that", want...)
	}
}

// Late: who is down does not look, and to fall is no look, as nothing is sent.
func TestLateDown(t *testing.T) {
	for d := 1; d <= 4; d++ {
		for n := range 4 {
			others := slices.DeleteFunc([]int{0, 1, 2, 3}, func(x int) bool { return x == n })
			// It is down, and looks all the while.
			w := plain(t, d)
			steps(w, [3]int{10, n, 0})
			for tick := 1; tick <= d; tick++ {
				steps(w, [3]int{1, 0, 0})
				looks(w, 0, 1, 2, 3)
			}
			isLate(t, w, "it is down for a delay")
			steps(w, [3]int{1, 0, 0})
			isLate(t, w, "it is down for more", n)
			// It is up in time, and looks.
			w = plain(t, d)
			steps(w, [3]int{10, n, 0})
			for range d {
				steps(w, [3]int{1, 0, 0})
				looks(w, others...)
			}
			steps(w, [3]int{11, n, 0}, [3]int{2, n, 0})
			for range d {
				steps(w, [3]int{1, 0, 0})
			}
			isLate(t, w, "it looked again")
			// It falls as it looks, again and again.
			w = plain(t, d)
			for range d {
				steps(w, [3]int{1, 0, 0}, [3]int{10, n, 999}, [3]int{11, n, 0})
				looks(w, others...)
			}
			isLate(t, w, "it falls within a delay")
			steps(w, [3]int{1, 0, 0})
			isLate(t, w, "it falls whenever it looks", n)
			// To be up alone is no look.
			w = plain(t, d)
			for range d {
				steps(w, [3]int{1, 0, 0}, [3]int{11, n, 0})
				looks(w, others...)
			}
			steps(w, [3]int{1, 0, 0})
			isLate(t, w, "it is up, and does not look", n)
		}
	}
}

// Late: a look whose records have no room is none: the party is down, and sends nothing.
func TestLateNoRoom(t *testing.T) {
	w := made(t, Setup{Delay: 1, Room: 50})
	for n := range 2 {
		for place := range 2 {
			steps(w, [3]int{9, 0, 10 + 2*n + place}, [3]int{3, 0, 0}, [3]int{3, 0, 0})
		}
		looks(w, 0, 1, 2, 3)
		if !w.Router(2).Down() || !w.Router(3).Down() {
			t.Fatal("there is room")
		}
		isLate(t, w, "it had no room")
		steps(w, [3]int{11, 2, 0}, [3]int{11, 3, 0}, [3]int{1, 0, 0})
	}
	isLate(t, w, "it had no room for more than a delay", 2, 3)
}

// Late: whose transaction waited for more than Delay ticks.
func TestLateWaits(t *testing.T) {
	for d := 1; d <= 4; d++ {
		// What user 1 submits is included just in time, or a tick later.
		for ticks := range d + 3 {
			w := plain(t, d)
			steps(w, [3]int{9, 1, 100})
			rounds(w, 1)
			looks(w, 0, 1, 2, 3)
			if len(w.Side(0).Pool()) != 1 {
				t.Fatal("nothing waits")
			}
			for range ticks {
				steps(w, [3]int{1, 0, 0})
				looks(w, 0, 1, 2, 3)
			}
			var want []int
			if ticks > d {
				want = []int{1}
			}
			isLate(t, w, "it waits", want...)
			steps(w, [3]int{8, 0, 0})
			isLate(t, w, "it is included", want...)
			for range 3 * d {
				steps(w, [3]int{1, 0, 0}, [3]int{8, 0, 1}, [3]int{8, 0, 0})
				looks(w, 0, 1, 2, 3)
			}
			isLate(t, w, "it waits no more", want...)
		}
		// Others' transactions make nobody late, nor does the relayer's.
		w := made(t, Setup{Delay: d, Corrupt: 1, Room: plenty})
		for from := range 8 {
			if from == 0 || from > 4 {
				w.Step(api.Step{Kind: 6, Data: octets(t, api.Tx{From: from, Nonce: 9, Kind: 1, Amount: wide.Of(1)})})
			}
		}
		for range 9 {
			steps(w, [3]int{1, 0, 0})
			looks(w, 0, 1, 2, 3)
		}
		isLate(t, w, "others wait")
	}
}

// Late: each side's are told apart, and of several that wait each one counts.
func TestLateEach(t *testing.T) {
	w := plain(t, 2)
	steps(w, [3]int{9, 0, 100}, [3]int{9, 0, 50}, [3]int{9, 1, 60})
	rounds(w, 1)
	looks(w, 0, 1)
	if len(w.Side(0).Pool()) != 3 {
		t.Fatalf("%v", w.Side(0).Pool())
	}
	// The first of user 0's is included, and that of user 1; the second is not.
	steps(w, [3]int{8, 0, 0}, [3]int{8, 1, 0}, [3]int{1, 0, 0})
	looks(w, 0, 1, 2, 3)
	steps(w, [3]int{1, 0, 0})
	looks(w, 0, 1, 2, 3)
	isLate(t, w, "a delay")
	steps(w, [3]int{1, 0, 0})
	// Router 2 mirrors two deals a tick later than they were submitted.
	isLate(t, w, "user 0 waits", 0)
	steps(w, [3]int{1, 0, 0})
	if len(w.Side(1).Pool()) != 2 {
		t.Fatalf("%v", w.Side(1).Pool())
	}
	isLate(t, w, "the router waits, too", 0, 2)
}

// stuff fills what waits on a side with what is never taken.
func stuff(t *testing.T, w *World, side int) {
	t.Helper()
	for n := 0; len(w.Side(side).Pool()) < 128; n++ {
		w.Step(api.Step{Kind: 6, B: side, Data: octets(t, api.Tx{From: 7, Nonce: 99 + n, Kind: 1, Amount: wide.Of(1)})})
	}
}

// Late: what a ledger has no room for waits, too: else a user could lose what a ledger was stuffed for.
func TestLateStuffed(t *testing.T) {
	w := plain(t, 2)
	steps(w, [3]int{9, 0, 100})
	rounds(w, 1)
	stuff(t, w, 0)
	looks(w, 0, 1, 2, 3)
	if w.Side(0).Waits(0, deal.Key(w.Client(0).Deals()[0].Inv), 4) {
		t.Fatal("there is room")
	}
	for range 2 {
		steps(w, [3]int{1, 0, 0})
		looks(w, 0, 1, 2, 3)
	}
	isLate(t, w, "a delay")
	steps(w, [3]int{1, 0, 0})
	isLate(t, w, "more than that", 0)
	// There is room in time for what is sent once more.
	w = plain(t, 2)
	steps(w, [3]int{9, 0, 100})
	rounds(w, 1)
	for n := range 128 {
		w.Step(api.Step{Kind: 6, Data: octets(t, api.Tx{From: 7, Nonce: n, Kind: 1, Amount: wide.Of(1)})})
	}
	looks(w, 0, 1, 2, 3)
	steps(w, [3]int{1, 0, 0}, [3]int{8, 0, 0})
	looks(w, 0, 1, 2, 3)
	steps(w, [3]int{1, 0, 0}, [3]int{8, -1, 0})
	for range 3 {
		looks(w, 0, 1, 2, 3)
		steps(w, [3]int{8, 0, 1}, [3]int{8, -1, 0}, [3]int{1, 0, 0})
	}
	isLate(t, w, "it is included within a delay")
}

// What is included by others, by the ledger that Side answers, waits no more either; and it may be forged.
func TestIncludedByOthers(t *testing.T) {
	w := plain(t, 1)
	steps(w, [3]int{9, 0, 100})
	rounds(w, 1)
	looks(w, 0, 1, 2, 3)
	if !w.Side(0).Include(0) {
		t.Fatal("nothing waits")
	}
	for range 5 {
		looks(w, 0, 1, 2, 3)
		steps(w, [3]int{8, 0, 1}, [3]int{8, 0, 0}, [3]int{1, 0, 0})
	}
	isLate(t, w, "it was included")
	x := forged(t, w, 0, 1, 0, "x")
	if !w.Side(1).Submit(x) || w.Forged() || !w.Side(1).Include(0) || !w.Forged() {
		t.Error("it is not forged")
	}
}

// transfer is one of a user's that may be.
func transfer(user int, id string) api.Inv {
	return api.Inv{User: user, Root: mss.Root(client.Seed(user)), Router: 2, Recv: 1, To: 7, Id: id}
}

// forged is a transaction of account 5 to a side, for an act, with a signature of a user's key that the user never made.
func forged(t *testing.T, w *World, user int, act int, fee uint64, id string) api.Tx {
	t.Helper()
	i := transfer(user, id)
	sig, _, err := mss.Sign(api.Key{Seed: client.Seed(user), Next: 5}, deal.Payload(act, deal.Key(i), wide.Of(fee)))
	if err != api.OK {
		t.Fatal(err)
	}
	return api.Tx{From: 5, Kind: 4 + act, Inv: i, Var: api.Var{Amount: wide.Of(9), Expiry: 1020}, Fee: wide.Of(fee), Sig: sig}
}

// Forged: it is included, on whatever side, whatever comes of it; of a user who is not corrupted.
func TestForged(t *testing.T) {
	for corrupt := range 4 {
		for user := range 2 {
			for _, act := range []int{1, 2} {
				for side := range 2 {
					for fee := range uint64(2) {
						w := made(t, Setup{Delay: 1, Corrupt: corrupt, Room: plenty})
						x := forged(t, w, user, act, fee, "x")
						w.Step(api.Step{Kind: 6, B: side, Data: octets(t, x)})
						if w.Forged() {
							t.Error("it is not included yet")
						}
						w.Step(api.Step{Kind: 8, B: side})
						if want := corrupt>>user&1 == 0; w.Forged() != want || last(w, side) != api.ErrStatus {
							t.Errorf("corrupt %d, user %d, act %d, side %d, fee %d: %t", corrupt, user, act, side, fee, w.Forged())
						}
						rounds(w, 2)
						if want := corrupt>>user&1 == 0; w.Forged() != want {
							t.Error("that has passed")
						}
					}
				}
			}
		}
	}
}

// Forged: a signature that is not the user's, by its root, of that act, transfer and fee, is none.
func TestNotForged(t *testing.T) {
	w := made(t, Setup{Delay: 1, Corrupt: 2, Room: plenty})
	for place, change := range []func(x *api.Tx){
		func(x *api.Tx) { x.Sig = "" },
		func(x *api.Tx) { x.Sig = x.Sig[:144] },
		func(x *api.Tx) { x.Sig = x.Sig[:144] + string(x.Sig[144]^1) },
		func(x *api.Tx) { x.Kind = 11 - x.Kind },
		func(x *api.Tx) { x.Fee = wide.Of(2) },
		func(x *api.Tx) { x.Inv.Id = "y" },
		func(x *api.Tx) { x.Inv.To = 6 },
		func(x *api.Tx) { x.Inv.Root = "01234567" },
		func(x *api.Tx) { *x = forged(t, w, 1, 1, 1, "x") },
		func(x *api.Tx) { x.Kind, x.Sig = 4, "" },
	} {
		for act := 1; act < 3; act++ {
			x := forged(t, w, 0, act, 1, "x")
			change(&x)
			submit(t, w, place%2, x)
			if w.Forged() {
				t.Fatalf("change %d: it is forged", place)
			}
		}
	}
	// Only what fulfils or cancels can be forged, whatever others submit beside it.
	sig, _, _ := mss.Sign(api.Key{Seed: client.Seed(0)}, nil)
	if !w.Side(0).Submit(api.Tx{From: 6, Kind: 4, Inv: transfer(0, "x"), Var: api.Var{Amount: wide.Of(9), Expiry: 1020}, Sig: sig}) || !w.Side(0).Include(0) || w.Forged() {
		t.Error("it only prepares")
	}
	// For another one's transfer, user 0 never acted either.
	x := forged(t, w, 1, 1, 1, "x")
	x.Sig, _, _ = mss.Sign(api.Key{Seed: client.Seed(0)}, deal.Payload(1, deal.Key(x.Inv), x.Fee))
	submit(t, w, 0, x)
	if !w.Forged() {
		t.Error("that is forged")
	}
}

// Forged: not what a user acted for, whoever brings it, also when it is down, or acted as it fell.
func TestActedFor(t *testing.T) {
	w := made(t, Setup{Delay: 1, Corrupt: 8, Room: plenty})
	steps(w, [3]int{9, 0, 100})
	rounds(w, 4)
	d := w.Client(0).Deals()[0]
	if d.Act != 1 {
		t.Fatalf("%#v", d)
	}
	sig, _, _ := mss.Sign(api.Key{Seed: client.Seed(0), Next: 0}, deal.Payload(1, deal.Key(d.Inv), wide.Of(1)))
	x := api.Tx{From: 3, Kind: 5, Inv: d.Inv, Var: d.Var, Fee: wide.Of(1), Sig: sig}
	steps(w, [3]int{10, 0, 0})
	submit(t, w, 0, x)
	submit(t, w, 1, x)
	if w.Forged() || len(w.Client(0).Signed()) != 1 {
		t.Error("it acted for that")
	}
	// Another leaf signs the same.
	x.Sig, _, _ = mss.Sign(api.Key{Seed: client.Seed(0), Next: 7}, deal.Payload(1, deal.Key(d.Inv), wide.Of(1)))
	submit(t, w, 0, x)
	if w.Forged() {
		t.Error("it acted for that, though by another leaf")
	}
	x.Kind = 6
	x.Sig, _, _ = mss.Sign(api.Key{Seed: client.Seed(0), Next: 7}, deal.Payload(2, deal.Key(d.Inv), wide.Of(1)))
	submit(t, w, 0, x)
	if !w.Forged() {
		t.Error("it did not act to cancel")
	}
}

// Forged: as it is included the user did not act for it; that it does so later changes nothing.
func TestForgedAhead(t *testing.T) {
	w := plain(t, 4)
	steps(w, [3]int{9, 0, 100})
	rounds(w, 2)
	d := w.Client(0).Deals()[0]
	sig, _, _ := mss.Sign(api.Key{Seed: client.Seed(0)}, deal.Payload(2, deal.Key(d.Inv), wide.Of(1)))
	submit(t, w, 1, api.Tx{From: 6, Kind: 6, Inv: d.Inv, Var: d.Var, Fee: wide.Of(1), Sig: sig})
	steps(w, [3]int{12, 0, 0})
	if w.Client(0).Deals()[0].Act != 2 || !w.Forged() {
		t.Error("it was not forged")
	}
}

// Clash: two unlike transfers with one key, or unlike sides' data with one digest. None are known, so that what was met ahead is put there by hand.
func TestClash(t *testing.T) {
	i, v := transfer(1, "x"), api.Var{Amount: wide.Of(9), Expiry: 1020}
	other := transfer(1, "y")
	less, later := api.Var{Amount: wide.Of(8), Expiry: 1020}, api.Var{Amount: wide.Of(9), Expiry: 1021}
	key, digest := deal.Key(i), deal.Digest(i, v)
	for _, x := range []struct {
		name string
		meet func(w *World)
		want bool
	}{
		{"nothing", func(w *World) {}, false},
		{"the same key", func(w *World) { w.transfers[key] = i }, false},
		{"another one's key", func(w *World) { w.transfers[key] = other }, true},
		{"the same digest", func(w *World) { w.halves[digest] = half{i, v} }, false},
		{"another Amount's digest", func(w *World) { w.halves[digest] = half{i, less} }, true},
		{"another Expiry's digest", func(w *World) { w.halves[digest] = half{i, later} }, true},
		{"another transfer's digest", func(w *World) { w.halves[digest] = half{other, v} }, true},
	} {
		for kind := 1; kind <= 6; kind++ {
			for side := range 2 {
				w := plain(t, 1)
				x.meet(w)
				if w.Clash() {
					t.Errorf("%s: nothing is submitted", x.name)
				}
				tx := api.Tx{From: 6, Kind: kind, Amount: wide.Of(1), Inv: api.Inv{Router: 2}}
				if kind > 3 {
					tx.Inv, tx.Var = i, v
				}
				w.Step(api.Step{Kind: 6, B: side, Data: octets(t, tx)})
				if want := x.want && kind > 3; w.Clash() != want {
					t.Errorf("%s: kind %d, side %d: %t", x.name, kind, side, w.Clash())
				}
				tx = api.Tx{From: 6, Nonce: 1, Kind: 4, Inv: other, Var: v}
				w.Step(api.Step{Kind: 6, B: side, Data: octets(t, tx)})
				tx = api.Tx{From: 5, Kind: 1 + side, Asset: 1, Amount: wide.Of(2), Inv: api.Inv{Router: 3, To: 3}}
				w.Step(api.Step{Kind: 6, B: side, Data: octets(t, tx)})
				if want := x.want && kind > 3; w.Clash() != want {
					t.Errorf("%s: kind %d, side %d, then others: %t", x.name, kind, side, w.Clash())
				}
			}
		}
	}
}

// Clash: what parties submit is met, too, and what was submitted once is what later ones are held against.
func TestClashOfParties(t *testing.T) {
	w := plain(t, 1)
	steps(w, [3]int{9, 0, 100})
	rounds(w, 5)
	d := w.Client(0).Deals()[0]
	m := w.Router(2).Mirrors()[0]
	if w.Clash() || w.transfers[deal.Key(d.Inv)] != d.Inv || w.halves[deal.Digest(d.Inv, d.Var)] != (half{d.Inv, d.Var}) || w.halves[deal.Digest(m.Inv, m.Var)] != (half{m.Inv, m.Var}) {
		t.Errorf("%v, %v", w.transfers, w.halves)
	}
	// Many unlike ones, and the same again, are no clash.
	for n := range 40 {
		i := transfer(n%2, fmt.Sprint(n%10))
		v := api.Var{Amount: wide.Of(uint64(1 + n%3)), Expiry: n % 4}
		w.Step(api.Step{Kind: 6, B: n, Data: octets(t, api.Tx{From: 5, Nonce: n, Kind: 4 + n%3, Inv: i, Var: v})})
	}
	if w.Clash() {
		t.Error("names clash")
	}
	if len(w.transfers) != 11 {
		t.Errorf("%d transfers are met", len(w.transfers))
	}
}

// Step 13: a trade is fulfilled on both sides behind five rounds, of any amount that a router has, by any user, of any asset.
func TestFairTrade(t *testing.T) {
	for _, amount := range []int{1, 2, 99, 100, 399, 400} {
		for place := range 4 {
			w := made(t, Setup{Delay: 1 + place, Skew: 50*place - 100, Room: plenty})
			w.Step(api.Step{Kind: 9, A: place % 2, B: amount, C: place / 2})
			for round := range 5 {
				rounds(w, 1)
				key := ""
				if round > 0 {
					key = deal.Key(w.Client(place % 2).Deals()[0].Inv)
				}
				// It is asked for, then taken, mirrored, released, and brought back.
				near, far := [5]int{0, 1, 1, 1, 2}[round], [5]int{0, 0, 1, 2, 2}[round]
				if escrow.Status(w.Side(0).State(), key) != near || escrow.Status(w.Side(1).State(), key) != far || w.Now() != round+1 || len(w.Mail()) != 0 || len(w.waits) != 0 {
					t.Fatalf("amount %d, round %d: %s", amount, round, view(w))
				}
			}
			rounds(w, 50)
			isLate(t, w, "fair")
			// The relayer hears of it behind its look, so that it sends nothing.
			if w.Forged() || w.Clash() || len(w.Side(0).Events(0)) != 2 || len(w.Side(1).Events(4)) != 2 {
				t.Errorf("amount %d: %s", amount, view(w))
			}
		}
	}
}

// Example 2 of the whole: without routers nothing is bid; with one that is gone the user's lock is cancelled when it is past.
func TestRouterGone(t *testing.T) {
	w := made(t, Setup{Delay: 2, Corrupt: 12, Room: plenty})
	steps(w, [3]int{9, 0, 100})
	rounds(w, 9)
	if len(w.Client(0).Deals()) != 0 {
		t.Error("nobody bids")
	}
	w = plain(t, 2)
	steps(w, [3]int{9, 0, 100})
	rounds(w, 2)
	steps(w, [3]int{10, 2, 0})
	key := deal.Key(w.Client(0).Deals()[0].Inv)
	// It was made at 1001, for 44.
	for w.Now() < 45 {
		rounds(w, 1)
		if got := escrow.Status(w.Side(0).State(), key); got != 1 {
			t.Fatalf("tick %d: %d", w.Now(), got)
		}
	}
	rounds(w, 1)
	if escrow.Status(w.Side(0).State(), key) != 3 || w.Side(0).State().Purse.Of(0, 0) != wide.Of(998) {
		t.Error("the lock is not cancelled")
	}
	isLate(t, w, "it is gone", 2)
}

// Step 13: what waits is included in the order in which it can be: again and again the first that is taken, 40 at most, on each side.
func TestRoundIncludes(t *testing.T) {
	w := plain(t, 1)
	waits := func(side int, from int, nonce int) api.Tx {
		x := api.Tx{From: from, Nonce: nonce, Kind: 1, Amount: wide.Of(1), Inv: api.Inv{To: 7}}
		w.Step(api.Step{Kind: 6, B: side, Data: octets(t, x)})
		return x
	}
	never := waits(0, 6, 9)
	third, second, other, first := waits(0, 5, 2), waits(0, 5, 1), waits(0, 7, 0), waits(0, 5, 0)
	behind := waits(0, 7, 1)
	rounds(w, 1)
	var got []api.Tx
	for _, e := range w.Side(0).Events(0) {
		got = append(got, e.Tx)
		if e.Time != 1000 {
			t.Errorf("it is included at %d", e.Time)
		}
	}
	if want := []api.Tx{other, first, second, third, behind}; !slices.Equal(got, want) || !slices.Equal(w.Side(0).Pool(), []api.Tx{never}) {
		t.Errorf("%v", got)
	}
	w = plain(t, 1)
	for n := range 100 {
		waits(0, 5, n)
		waits(1, 6, 99-n)
	}
	for round := range 3 {
		want := min(100, 40*(round+1))
		rounds(w, 1)
		if near, far := len(w.Side(0).Events(0)), len(w.Side(1).Events(4)); near != want || far != want {
			t.Errorf("round %d: %d, %d are included", round, near, far)
		}
	}
}

// Step 13: all parties look in order, so that what they send waits in order.
func TestRoundOrder(t *testing.T) {
	w := plain(t, 1)
	w.Step(api.Step{Kind: 9, A: 1, B: 20, C: 1})
	w.Step(api.Step{Kind: 9, A: 0, B: 30, C: 1})
	rounds(w, 5)
	var got [2][]int
	for side := range 2 {
		for _, e := range w.Side(side).Events(4 * side) {
			got[side] = append(got[side], e.Tx.From)
		}
	}
	if want := [2][]int{{0, 1, 2, 2}, {2, 2, 0, 1}}; !reflect.DeepEqual(got, want) {
		t.Errorf("%v", got)
	}
}

// Step 13: all that is on its way is delivered, ahead of the looks and behind them, also what is for nobody; and it ends with a tick.
func TestRoundDelivers(t *testing.T) {
	w := made(t, Setup{Delay: 1, Corrupt: 8 | 2, Room: plenty})
	for n := range 60 {
		w.Step(api.Step{Kind: 7, A: n % 5, Data: []byte{byte(n)}})
	}
	steps(w, [3]int{9, 0, 50}, [3]int{10, 2, 0})
	rounds(w, 1)
	if len(w.Mail()) != 0 || len(w.Router(2).Bids()) != 0 || !w.Router(2).Down() || w.Now() != 1 || w.Side(0).Time() != 1001 || w.Side(1).Time() != 1001 {
		t.Error(view(w))
	}
	steps(w, [3]int{11, 2, 0}, [3]int{9, 0, 50})
	rounds(w, 1)
	// The bid is heard behind the looks of that round; the auction is over in the next one.
	if len(w.Router(2).Bids()) != 1 || len(w.Client(0).Deals()) != 0 || len(w.Mail()) != 0 {
		t.Error(view(w))
	}
	rounds(w, 1)
	if len(w.Client(0).Deals()) != 1 || len(w.Side(0).Events(0)) != 1 {
		t.Error(view(w))
	}
}
