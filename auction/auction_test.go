package auction

import (
	"fmt"
	"math"
	"math/big"
	"math/rand"
	"reflect"
	"slices"
	"strings"
	"testing"

	"narrows/api"
	"narrows/bid"
	"narrows/mss"
	"narrows/wide"
)

// rootsOf and signedOf are made once: they take long.
var (
	rootsOf  = map[string]string{}
	signedOf = map[string]api.Bid{}
)

// rootOf is a router's root.
func rootOf(router int) string {
	seed := bid.Seed(router)
	if rootsOf[seed] == "" {
		rootsOf[seed] = mss.Root(seed)
	}
	return rootsOf[seed]
}

// both are the roots of routers 2 and 3.
func both() []string {
	return []string{rootOf(2), rootOf(3)}
}

// by is the bid, signed with that leaf of that seed.
func by(seed string, leaf int, b api.Bid) api.Bid {
	name := fmt.Sprintf("%q %d %#v", seed, leaf, b)
	if s, ok := signedOf[name]; ok {
		return s
	}
	s, _, err := bid.Sign(api.Key{Seed: seed, Next: leaf}, b)
	if err != api.OK {
		panic(fmt.Sprintf("bid.Sign(%#v): %d", b, err))
	}
	signedOf[name] = s
	return s
}

// offer is a router's own bid of n.
func offer(router int, a api.Ask, n uint64, until int) api.Bid {
	return by(bid.Seed(router), int(n%8), api.Bid{Router: router, Ask: a, Amount: wide.Of(n), Until: until})
}

// ask is what user 0 wants: 100, by that name.
func ask(id string) api.Ask {
	return api.Ask{User: 0, Send: 0, Recv: 1, To: 5, Amount: wide.Of(100), Id: id}
}

// alike are asks each of which is like the first but for one field, or one word of its Amount.
func alike() []api.Ask {
	l := []api.Ask{ask("a")}
	for _, set := range []func(*api.Ask){
		func(a *api.Ask) { a.User = 1 },
		func(a *api.Ask) { a.Send = 1 },
		func(a *api.Ask) { a.Recv = 0 },
		func(a *api.Ask) { a.To = 6 },
		func(a *api.Ask) { a.Amount[0]++ },
		func(a *api.Ask) { a.Amount[1]++ },
		func(a *api.Ask) { a.Amount[2]++ },
		func(a *api.Ask) { a.Amount[3]++ },
		func(a *api.Ask) { a.Id = "A" },
		func(a *api.Ask) { a.Id = "a\x00" },
		func(a *api.Ask) { a.Id = "aaaaaaaaaaaaaaaa" },
	} {
		a := ask("a")
		set(&a)
		l = append(l, a)
	}
	return l
}

// wrong are asks that may not be.
func wrong() map[string]api.Ask {
	l := map[string]api.Ask{"nothing": {}}
	for name, set := range map[string]func(*api.Ask){
		"user 2":    func(a *api.Ask) { a.User = 2 },
		"user -1":   func(a *api.Ask) { a.User = -1 },
		"send 2":    func(a *api.Ask) { a.Send = 2 },
		"send -1":   func(a *api.Ask) { a.Send = math.MinInt },
		"recv 2":    func(a *api.Ask) { a.Recv = math.MaxInt },
		"recv -1":   func(a *api.Ask) { a.Recv = -1 },
		"to 8":      func(a *api.Ask) { a.To = 8 },
		"to -1":     func(a *api.Ask) { a.To = -1 },
		"no amount": func(a *api.Ask) { a.Amount = api.Wide{} },
		"no id":     func(a *api.Ask) { a.Id = "" },
		"long id":   func(a *api.Ask) { a.Id = strings.Repeat("i", 17) },
		"longer id": func(a *api.Ask) { a.Id = strings.Repeat("i", 5000) },
	} {
		a := ask("a")
		set(&a)
		l[name] = a
	}
	return l
}

// numbers are times and delays of any size.
func numbers() []int {
	return []int{math.MinInt, math.MinInt + 1, math.MinInt + 2, -1 << 40, -257, -5, -2, -1, 0, 1, 2, 3, 4, 5, 6, 7, 9, 10, 11, 20, 255, 256, 1000, 1001,
		1 << 32, 1<<40 - 2, 1<<40 - 1, 1 << 40, 1<<40 + 1, 1<<40 + 2, math.MaxInt - 1, math.MaxInt}
}

// model is a room, written a second time: what was told, and nothing thought of ahead.
type model struct {
	roots map[int]string
	asks  []api.Ask
	since map[api.Ask]int
	kept  map[api.Ask][]api.Bid
}

// begin is a room, and its model.
func begin(roots ...string) (*Room, *model) {
	m := &model{roots: map[int]string{}, since: map[api.Ask]int{}, kept: map[api.Ask][]api.Bid{}}
	for place, root := range roots {
		m.roots[place+2] = root
	}
	return New(roots), m
}

// open is Open, written a second time.
func (m *model) open(a api.Ask, now int) api.Errno {
	_, is := m.since[a]
	switch {
	case bid.CheckAsk(a) != api.OK:
		return bid.CheckAsk(a)
	case is:
		return api.ErrStatus
	case len(m.since) == 8:
		return api.ErrFull
	}
	m.since[a] = now
	if now < 0 || now > 1<<40 {
		m.since[a] = 0
	}
	m.asks = append(m.asks, a)
	return api.OK
}

// bid is Bid, written a second time.
func (m *model) bid(b api.Bid, now int) bool {
	if _, is := m.since[b.Ask]; !is || bid.Check(b) != api.OK || b.Until < now {
		return false
	}
	root, known := m.roots[b.Router]
	if _, ok := mss.Verify(root, bid.Text(b), b.Sig); !ok || !known {
		return false
	}
	for _, other := range m.kept[b.Ask] {
		if other.Router == b.Router {
			return false
		}
	}
	m.kept[b.Ask] = append(m.kept[b.Ask], b)
	return true
}

// large is a wide number, by the library's.
func large(a api.Wide) *big.Int {
	n := new(big.Int)
	for place := 3; place >= 0; place-- {
		n.Lsh(n, 64).Or(n, new(big.Int).SetUint64(a[place]))
	}
	return n
}

// best is Best, written a second time.
func (m *model) best(a api.Ask, now int) (api.Bid, bool) {
	since, is := m.since[a]
	gone := new(big.Int).Sub(big.NewInt(int64(now)), big.NewInt(int64(since)))
	if !is || gone.Sign() <= 0 {
		return api.Bid{}, false
	}
	var l []api.Bid
	for _, b := range m.kept[a] {
		if now <= b.Until {
			l = append(l, b)
		}
	}
	slices.SortFunc(l, func(x, y api.Bid) int {
		if n := large(y.Amount).Cmp(large(x.Amount)); n != 0 {
			return n
		}
		return x.Router - y.Router
	})
	if len(l) == 0 {
		return api.Bid{}, false
	}
	return l[0], true
}

// is tells it, if the room answers otherwise than the model.
func is(t *testing.T, what string, r *Room, m *model) {
	t.Helper()
	if got := r.Asks(); !slices.Equal(got, m.asks) {
		t.Fatalf("%s: Asks() =\n%#v; want\n%#v", what, got, m.asks)
	}
	for _, a := range append(append(alike(), api.Ask{}), m.asks...) {
		if got := r.Bids(a); !slices.Equal(got, m.kept[a]) {
			t.Fatalf("%s: Bids(%#v) =\n%#v; want\n%#v", what, a, got, m.kept[a])
		}
		for place, now := range numbers() {
			d := numbers()[(place*7+len(m.asks))%len(numbers())]
			got, ok := r.Best(a, now, d)
			if want, has := m.best(a, now); got != want || ok != has {
				t.Fatalf("%s: Best(%#v, %d, %d) =\n%#v, %t; want\n%#v, %t", what, a, now, d, got, ok, want, has)
			}
		}
	}
}

// opens lets both open it, and tells it, if they answer otherwise than it should be.
func opens(t *testing.T, r *Room, m *model, a api.Ask, now int, want api.Errno) {
	t.Helper()
	if got, second := r.Open(a, now), m.open(a, now); got != want || second != want {
		t.Fatalf("Open(%#v, %d) = %d (the second writing: %d), want %d", a, now, got, second, want)
	}
	is(t, "behind Open", r, m)
}

// bids lets both hear of it, and tells it, if they answer otherwise than it should be.
func bids(t *testing.T, r *Room, m *model, b api.Bid, now int, want bool) {
	t.Helper()
	if got, second := r.Bid(b, now), m.bid(b, now); got != want || second != want {
		t.Fatalf("Bid(%#v, %d) = %t (the second writing: %t), want %t", b, now, got, second, want)
	}
	is(t, "behind Bid", r, m)
}

// wins tells it, if the best one is another.
func wins(t *testing.T, r *Room, a api.Ask, now int, want api.Bid) {
	t.Helper()
	for d := -1; d <= 5; d++ {
		if got, ok := r.Best(a, now, d); got != want || !ok {
			t.Errorf("Best(%#v, %d, %d) = %#v, %t; want %#v", a, now, d, got, ok, want)
		}
	}
}

// none tells it, if there is a best one.
func none(t *testing.T, r *Room, a api.Ask, now int) {
	t.Helper()
	for _, d := range numbers() {
		if got, ok := r.Best(a, now, d); got != (api.Bid{}) || ok {
			t.Errorf("Best(%#v, %d, %d) = %#v, %t; want none", a, now, d, got, ok)
		}
	}
}

// P19.1, the chapter's example, and that of the stage's test.
func TestExamples(t *testing.T) {
	for _, roots := range [][]string{nil, {}, {""}, both(), {rootOf(2), rootOf(3), "more"}} {
		r, m := begin(roots...)
		is(t, "at first", r, m)
		if len(r.Asks()) != 0 || len(r.Bids(ask("a"))) != 0 || r.Bid(offer(2, ask("a"), 99, 20), 0) {
			t.Error("something is open at first")
		}
		none(t, r, ask("a"), 5)
		if err := r.Open(api.Ask{Amount: api.Wide{5}, Id: "x"}, 3); err != api.OK {
			t.Errorf("Open: %d", err)
		}
	}
}

// P19.1, a whole auction: what is opened, bid for, and won.
func TestAuction(t *testing.T) {
	r, m := begin(both()...)
	a := ask("a")
	opens(t, r, m, a, 1000, api.OK)
	bids(t, r, m, offer(3, a, 98, 1016), 1000, true)
	none(t, r, a, 1000)
	wins(t, r, a, 1001, offer(3, a, 98, 1016))
	bids(t, r, m, offer(2, a, 99, 1010), 1001, true)
	wins(t, r, a, 1001, offer(2, a, 99, 1010))
	wins(t, r, a, 1010, offer(2, a, 99, 1010))
	wins(t, r, a, 1011, offer(3, a, 98, 1016))
	wins(t, r, a, 1016, offer(3, a, 98, 1016))
	none(t, r, a, 1017)
	if got := r.Bids(a); !slices.Equal(got, []api.Bid{offer(3, a, 98, 1016), offer(2, a, 99, 1010)}) {
		t.Errorf("Bids: %#v", got)
	}
}

// P19.1, Open: up to 8 are, in the order in which they were opened; the ninth is ErrFull.
func TestOpen(t *testing.T) {
	r, m := begin(both()...)
	for n, a := range alike() {
		want := api.OK
		if n >= 8 {
			want = api.ErrFull
		}
		opens(t, r, m, a, 10*n, want)
		if got := r.Asks(); !slices.Equal(got, alike()[:min(n+1, 8)]) {
			t.Fatalf("Asks() = %#v", got)
		}
	}
	for _, a := range alike()[:8] {
		if len(r.Bids(a)) != 0 {
			t.Error("nobody bade")
		}
		bids(t, r, m, offer(2, a, 99, 20), 15, true)
	}
}

// P19.1, Open: any two that are unlike in one field may be open at once; the same one may not, whenever it is.
func TestOpenTellsAsksApart(t *testing.T) {
	for _, a := range alike()[1:] {
		r, m := begin(both()...)
		opens(t, r, m, a, 5, api.OK)
		opens(t, r, m, ask("a"), 6, api.OK)
		for _, now := range numbers() {
			opens(t, r, m, a, now, api.ErrStatus)
			opens(t, r, m, ask("a"), now, api.ErrStatus)
		}
	}
}

// P19.1, Open: what is open stays open since when it was, though it is opened again.
func TestOpenAgainChangesNothing(t *testing.T) {
	r, m := begin(both()...)
	a := ask("a")
	opens(t, r, m, a, 10, api.OK)
	bids(t, r, m, offer(2, a, 99, 20), 10, true)
	opens(t, r, m, a, 15, api.ErrStatus)
	opens(t, r, m, a, 3, api.ErrStatus)
	none(t, r, a, 10)
	wins(t, r, a, 11, offer(2, a, 99, 20))
	if len(r.Asks()) != 1 || len(r.Bids(a)) != 1 {
		t.Error("it is there twice, or without its bids")
	}
}

// P19.1, P4, Open: bid.CheckAsk's error goes ahead of ErrFull, and so does ErrStatus.
func TestOpenErrors(t *testing.T) {
	r, m := begin(both()...)
	for many := range 9 {
		for name, a := range wrong() {
			if bid.CheckAsk(a) != api.ErrRoute {
				t.Fatalf("%s: it may be", name)
			}
			opens(t, r, m, a, many, api.ErrRoute)
		}
		if many > 0 {
			opens(t, r, m, alike()[0], many, api.ErrStatus)
			opens(t, r, m, alike()[many-1], many, api.ErrStatus)
		}
		if many < 8 {
			opens(t, r, m, alike()[many], many, api.OK)
		}
	}
	opens(t, r, m, alike()[8], 0, api.ErrFull)
	opens(t, r, m, alike()[7], 0, api.ErrStatus)
	if len(r.Asks()) != 8 {
		t.Error("another one is open")
	}
}

// P19.1, Open: of a now that is none it is open from 0 on.
func TestOpenTimes(t *testing.T) {
	for _, now := range numbers() {
		r, m := begin(both()...)
		a := ask("a")
		opens(t, r, m, a, now, api.OK)
		b := offer(3, a, 97, 1<<40)
		bids(t, r, m, b, 0, true)
		since := now
		if now < 0 || now > 1<<40 {
			since = 0
		}
		none(t, r, a, since)
		none(t, r, a, since-1)
		none(t, r, a, math.MinInt)
		if since < 1<<40 {
			wins(t, r, a, since+1, b)
			wins(t, r, a, 1<<40, b)
		}
		none(t, r, a, 1<<40+1)
		none(t, r, a, math.MaxInt)
	}
}

// P19.1, Bid: up to Until it is kept, then it is past.
func TestBidUntil(t *testing.T) {
	for _, until := range []int{0, 1, 7, 1000, 1<<40 - 1, 1 << 40} {
		for _, now := range append(numbers(), until-1, until, until+1) {
			r, m := begin(both()...)
			opens(t, r, m, ask("a"), 0, api.OK)
			bids(t, r, m, offer(2, ask("a"), 99, until), now, now <= until)
			if got := len(r.Bids(ask("a"))); got > 1 || got == 1 != (now <= until) {
				t.Errorf("until %d, at %d: %d are kept", until, now, got)
			}
		}
	}
}

// P19.1, Bid: of an ask that is not open it is not kept, though one that is alike but for one field is.
func TestBidOfWhatIsNotOpen(t *testing.T) {
	for _, a := range alike()[1:] {
		r, m := begin(both()...)
		bids(t, r, m, offer(2, a, 99, 20), 5, false)
		opens(t, r, m, ask("a"), 5, api.OK)
		bids(t, r, m, offer(2, a, 99, 20), 5, false)
		bids(t, r, m, offer(2, ask("a"), 99, 20), 5, true)
		bids(t, r, m, offer(3, a, 99, 20), 5, false)
		opens(t, r, m, a, 5, api.OK)
		bids(t, r, m, offer(2, a, 99, 20), 5, true)
		bids(t, r, m, offer(3, a, 99, 20), 5, true)
		if len(r.Bids(a)) != 2 || len(r.Bids(ask("a"))) != 1 {
			t.Error("it is kept for the other ask")
		}
	}
}

// P19.1, Bid: it is kept, whichever of its router's leaves signed it.
func TestBidByEachLeaf(t *testing.T) {
	for router := 2; router <= 3; router++ {
		for leaf := range 8 {
			r, m := begin(both()...)
			opens(t, r, m, ask("a"), 5, api.OK)
			bids(t, r, m, by(bid.Seed(router), leaf, api.Bid{Router: router, Ask: ask("a"), Amount: wide.Of(100), Until: 20}), 5, true)
		}
	}
}

// unsigned are bids that are not valid by their router's root.
func unsigned(a api.Ask) map[string]api.Bid {
	whole := offer(2, a, 99, 20)
	l := map[string]api.Bid{
		"nothing":       {},
		"other router":  by(bid.Seed(3), 0, api.Bid{Router: 2, Ask: a, Amount: wide.Of(99), Until: 20}),
		"other router2": by(bid.Seed(2), 0, api.Bid{Router: 3, Ask: a, Amount: wide.Of(99), Until: 20}),
		"nobody's":      by("seed", 0, api.Bid{Router: 2, Ask: a, Amount: wide.Of(99), Until: 20}),
	}
	for name, set := range map[string]func(*api.Bid){
		"no sig":        func(b *api.Bid) { b.Sig = "" },
		"half a sig":    func(b *api.Bid) { b.Sig = b.Sig[:len(b.Sig)-1] },
		"more sig":      func(b *api.Bid) { b.Sig += "\x00" },
		"long sig":      func(b *api.Bid) { b.Sig = strings.Repeat("s", 1025) },
		"another leaf":  func(b *api.Bid) { b.Sig = "\x07" + b.Sig[1:] },
		"no leaf":       func(b *api.Bid) { b.Sig = "\x08" + b.Sig[1:] },
		"another sig":   func(b *api.Bid) { b.Sig = offer(2, a, 98, 20).Sig },
		"amount":        func(b *api.Bid) { b.Amount = wide.Of(98) },
		"no amount":     func(b *api.Bid) { b.Amount = api.Wide{} },
		"great amount":  func(b *api.Bid) { b.Amount = wide.Of(101) },
		"until":         func(b *api.Bid) { b.Until = 21 },
		"no until":      func(b *api.Bid) { b.Until = 1<<40 + 1 },
		"until below":   func(b *api.Bid) { b.Until = -1 },
		"router":        func(b *api.Bid) { b.Router = 3 },
		"router 1":      func(b *api.Bid) { b.Router = 1 },
		"router 4":      func(b *api.Bid) { b.Router = 4 },
		"router -1":     func(b *api.Bid) { b.Router = -1 },
		"router lowest": func(b *api.Bid) { b.Router = math.MinInt },
		"router most":   func(b *api.Bid) { b.Router = math.MaxInt },
	} {
		b := whole
		set(&b)
		l[name] = b
	}
	return l
}

// P19.1, Bid: what is not valid by its router's root is not kept, and takes nobody's place.
func TestBidOfWhatIsNotValid(t *testing.T) {
	a := ask("a")
	r, m := begin(both()...)
	opens(t, r, m, a, 5, api.OK)
	for _, b := range unsigned(a) {
		for _, now := range []int{math.MinInt, -5, 0, 5, 20} {
			bids(t, r, m, b, now, false)
		}
	}
	bids(t, r, m, offer(2, a, 99, 20), 5, true)
	bids(t, r, m, offer(3, a, 99, 20), 5, true)
	for _, b := range unsigned(a) {
		bids(t, r, m, b, 5, false)
	}
}

// P19.1, New: the first root is router 2's, the next one router 3's; who has none bids nothing.
func TestRoots(t *testing.T) {
	two, three, other := rootOf(2), rootOf(3), mss.Root("seed")
	for _, c := range []struct {
		roots  []string
		second bool
		third  bool
	}{
		{nil, false, false},
		{[]string{}, false, false},
		{[]string{"", ""}, false, false},
		{[]string{two}, true, false},
		{[]string{two, ""}, true, false},
		{[]string{two, three}, true, true},
		{[]string{two, three, other, two}, true, true},
		{[]string{three, two}, false, false},
		{[]string{two, two}, true, false},
		{[]string{three, three}, false, true},
		{[]string{three}, false, false},
		{[]string{"", three}, false, true},
		{[]string{other, three}, false, true},
		{[]string{"", "", two, three}, false, false},
		{[]string{two + "\x00", three[:7]}, false, false},
		{[]string{strings.Repeat(two, 1000), three}, false, true},
	} {
		a := ask("a")
		r, m := begin(c.roots...)
		opens(t, r, m, a, 5, api.OK)
		bids(t, r, m, offer(2, a, 99, 20), 5, c.second)
		bids(t, r, m, offer(3, a, 99, 20), 5, c.third)
	}
	r := New([]string{other, other})
	r.Open(ask("a"), 5)
	for router := 2; router <= 3; router++ {
		if !r.Bid(by("seed", 3, api.Bid{Router: router, Ask: ask("a"), Amount: wide.Of(1), Until: 9}), 9) {
			t.Errorf("router %d signed by that root", router)
		}
	}
}

// P19.1, Bid: a router bids once for an ask, though what it bids then is better, the same, or the first is past.
func TestBidOnce(t *testing.T) {
	a, other := ask("a"), ask("b")
	r, m := begin(both()...)
	opens(t, r, m, a, 5, api.OK)
	opens(t, r, m, other, 5, api.OK)
	first := offer(3, a, 90, 10)
	bids(t, r, m, first, 5, true)
	for _, now := range []int{-1, 5, 6, 10, 11, 20} {
		bids(t, r, m, first, now, false)
		bids(t, r, m, offer(3, a, 91, 20), now, false)
		bids(t, r, m, offer(3, a, 89, 20), now, false)
		bids(t, r, m, offer(3, a, 100, 1<<40), now, false)
	}
	wins(t, r, a, 10, first)
	none(t, r, a, 11)
	if got := r.Bids(a); !slices.Equal(got, []api.Bid{first}) {
		t.Errorf("what is past is kept nevertheless: %#v", got)
	}
	bids(t, r, m, offer(3, other, 91, 20), 6, true)
	bids(t, r, m, offer(2, a, 89, 20), 11, true)
	bids(t, r, m, offer(2, a, 91, 20), 11, false)
	bids(t, r, m, offer(2, other, 1, 20), 11, true)
	wins(t, r, a, 10, first)
	wins(t, r, a, 11, offer(2, a, 89, 20))
	wins(t, r, other, 11, offer(3, other, 91, 20))
}

// P19.1: an ask is open, once it was opened, whatever time is told with a bid.
func TestBidAheadOfOpening(t *testing.T) {
	r, m := begin(both()...)
	opens(t, r, m, ask("a"), 1000, api.OK)
	bids(t, r, m, offer(2, ask("a"), 99, 2000), 3, true)
	bids(t, r, m, offer(3, ask("a"), 100, 999), 999, true)
	none(t, r, ask("a"), 999)
	none(t, r, ask("a"), 1000)
	wins(t, r, ask("a"), 1001, offer(2, ask("a"), 99, 2000))
}

// P19.1, Best: the window of 1 is the same of each delay; it ends at just the next time.
func TestBestWindow(t *testing.T) {
	for _, since := range []int{0, 1, 2, 1000, 1<<40 - 2, 1<<40 - 1} {
		r := New(both())
		r.Open(ask("a"), since)
		b := offer(2, ask("a"), 99, 1<<40)
		r.Bid(b, since)
		none(t, r, ask("a"), since)
		for now := since - 3; now < since; now++ {
			none(t, r, ask("a"), now)
		}
		for _, d := range numbers() {
			if got, ok := r.Best(ask("a"), since+1, d); got != b || !ok {
				t.Errorf("Best(a, %d, %d) = %#v, %t", since+1, d, got, ok)
			}
		}
	}
}

// P19.1, Best: of an ask that is not open there is none, though another one is that has bids.
func TestBestOfWhatIsNotOpen(t *testing.T) {
	r := New(both())
	r.Open(ask("a"), 1)
	r.Bid(offer(2, ask("a"), 99, 20), 1)
	for _, a := range append(alike()[1:], api.Ask{}) {
		none(t, r, a, 2)
		if len(r.Bids(a)) != 0 {
			t.Errorf("Bids(%#v): there are some", a)
		}
	}
	for name, a := range wrong() {
		if len(r.Bids(a)) != 0 {
			t.Errorf("%s: Bids: there are some", name)
		}
		none(t, r, a, 2)
	}
}

// top is the greatest number that a word can be.
const top = uint64(math.MaxUint64)

// P19.1, Best: the greatest Amount, by all words; of as great ones the lower router.
func TestBestIsTheGreatest(t *testing.T) {
	a := ask("a")
	a.Amount = api.Wide{top, top, top, top}
	amounts := []api.Wide{{1}, {2}, {top}, {0, 1}, {1, 1}, {top, 1}, {0, 2}, {0, 0, 1}, {top, top, 0, 1}, {0, 0, 0, 1}, {0, 0, 0, 2}, {0, 0, 0, top}, {top, top, top, top}}
	for _, x := range amounts {
		for _, y := range amounts {
			second := by(bid.Seed(2), 1, api.Bid{Router: 2, Ask: a, Amount: x, Until: 20})
			third := by(bid.Seed(3), 2, api.Bid{Router: 3, Ask: a, Amount: y, Until: 20})
			want := second
			if large(y).Cmp(large(x)) > 0 {
				want = third
			}
			for _, l := range [][]api.Bid{{second, third}, {third, second}} {
				r := New(both())
				r.Open(a, 0)
				if !r.Bid(l[0], 0) || !r.Bid(l[1], 0) {
					t.Fatalf("%v, %v: they are not kept", x, y)
				}
				if got, ok := r.Best(a, 1, 1); got != want || !ok {
					t.Errorf("Best of %v, %v = %#v, %t", x, y, got, ok)
				}
				if got := r.Bids(a); !slices.Equal(got, l) {
					t.Errorf("Bids = %#v, not in the order in which they came", got)
				}
			}
		}
	}
}

// orders tells each order of l.
func orders[T any](l []T, tell func([]T)) {
	if len(l) == 0 {
		tell(nil)
		return
	}
	for place := range l {
		rest := slices.Concat(l[:place], l[place+1:])
		orders(rest, func(behind []T) { tell(append([]T{l[place]}, behind...)) })
	}
}

// P19.2: in whatever order bids come, those that are not kept among them, the best ones are the same.
func TestAnyOrder(t *testing.T) {
	a, other := ask("a"), ask("b")
	all := []api.Bid{
		offer(2, a, 97, 30), offer(3, a, 99, 20), offer(2, other, 98, 25), offer(3, other, 98, 30),
		unsigned(a)["amount"], by(bid.Seed(3), 4, api.Bid{Router: 2, Ask: a, Amount: wide.Of(100), Until: 30}),
	}
	count := 0
	orders(all, func(l []api.Bid) {
		count++
		r := New(both())
		r.Open(a, 10)
		r.Open(other, 12)
		many := 0
		for _, b := range l {
			if r.Bid(b, 12) {
				many++
			}
		}
		if many != 4 || len(r.Bids(a)) != 2 || len(r.Bids(other)) != 2 {
			t.Fatalf("%d are kept of %#v", many, l)
		}
		for now := 9; now < 33; now++ {
			for of, want := range map[api.Ask]func() (api.Bid, bool){a: firstWins(now, 10, all[1], all[0]), other: firstWins(now, 12, all[2], all[3])} {
				wanted, has := want()
				if got, ok := r.Best(of, now, 1); got != wanted || ok != has {
					t.Fatalf("Best(%q, %d) = %#v, %t; want %#v, %t", of.Id, now, got, ok, wanted, has)
				}
			}
		}
	})
	if count != 720 {
		t.Errorf("%d orders", count)
	}
}

// firstWins tells which of two bids, the better one first, wins at a time.
func firstWins(now int, since int, l ...api.Bid) func() (api.Bid, bool) {
	return func() (api.Bid, bool) {
		for _, b := range l {
			if now > since && now <= b.Until {
				return b, true
			}
		}
		return api.Bid{}, false
	}
}

// P19.1: Asks and Bids are in the order in which they came, each ask's alone.
func TestInOrder(t *testing.T) {
	r, m := begin(both()...)
	l := []api.Ask{ask("c"), ask("a"), ask("b")}
	for n, a := range l {
		opens(t, r, m, a, 9-n, api.OK)
	}
	for _, b := range []api.Bid{offer(3, l[2], 5, 20), offer(3, l[0], 7, 20), offer(2, l[2], 9, 20), offer(2, l[1], 9, 20), offer(3, l[1], 10, 20)} {
		bids(t, r, m, b, 10, true)
	}
	if got := r.Asks(); !slices.Equal(got, l) {
		t.Errorf("Asks: %#v", got)
	}
	for place, routers := range [][]int{{3}, {2, 3}, {3, 2}} {
		got := r.Bids(l[place])
		for n, b := range got {
			if b.Router != routers[n] || b.Ask != l[place] {
				t.Errorf("Bids(%q): %#v", l[place].Id, got)
			}
		}
		if len(got) != len(routers) {
			t.Errorf("Bids(%q): %#v", l[place].Id, got)
		}
	}
}

// P19.1, P1: of one that nobody made: ErrState, ahead of all else; false, none; and nothing is told to it.
func TestNobodyMade(t *testing.T) {
	var zero Room
	for name, r := range map[string]*Room{"nil": nil, "zero": &zero, "new": new(Room), "literal": {}} {
		for range 2 {
			for _, a := range append(alike(), api.Ask{}) {
				for _, now := range numbers() {
					if err := r.Open(a, now); err != api.ErrState {
						t.Errorf("%s: Open: %d", name, err)
					}
				}
				if r.Bid(api.Bid{Ask: a}, 0) || len(r.Bids(a)) != 0 || len(r.Asks()) != 0 {
					t.Errorf("%s: something is there", name)
				}
				none(t, r, a, 5)
			}
			for _, a := range wrong() {
				if err := r.Open(a, 0); err != api.ErrState {
					t.Errorf("%s: Open: %d", name, err)
				}
			}
			if r.Bid(offer(2, ask("a"), 99, 20), 5) || r.Bid(api.Bid{}, 0) {
				t.Errorf("%s: Bid is true", name)
			}
		}
		if r != nil && !reflect.DeepEqual(*r, Room{}) {
			t.Errorf("%s: something was told to it", name)
		}
	}
}

// anyAsk is an ask of a few; now and then one that may not be.
func anyAsk(r *rand.Rand) api.Ask {
	a := alike()[r.Intn(len(alike()))]
	if r.Intn(12) == 0 {
		a.Id = ""
	}
	return a
}

// anyBid is a bid that often is valid.
func anyBid(r *rand.Rand) api.Bid {
	a := alike()[r.Intn(len(alike()))]
	b := offer(2+r.Intn(2), a, uint64(97+r.Intn(3)), []int{3, 9, 10, 20, 1000}[r.Intn(5)])
	switch r.Intn(12) {
	case 0:
		b.Router ^= 1
	case 1:
		b.Until++
	case 2:
		b.Sig = ""
	}
	return b
}

// P19.1: whatever it is told, all is as the second writing says.
func TestAtRandom(t *testing.T) {
	r := rand.New(rand.NewSource(19))
	seen := map[string]int{}
	for range 60 {
		room, m := begin(both()...)
		for range 60 {
			now := numbers()[r.Intn(len(numbers()))]
			if r.Intn(2) == 0 {
				now = r.Intn(25)
			}
			if r.Intn(3) == 0 {
				a := anyAsk(r)
				got, want := room.Open(a, now), m.open(a, now)
				seen[fmt.Sprint("open ", want)]++
				if got != want {
					t.Fatalf("Open(%#v, %d) = %d, want %d", a, now, got, want)
				}
			} else {
				b := anyBid(r)
				got, want := room.Bid(b, now), m.bid(b, now)
				seen[fmt.Sprint("bid ", want)]++
				if got != want {
					t.Fatalf("Bid(%#v, %d) = %t, want %t", b, now, got, want)
				}
			}
			is(t, "at random", room, m)
		}
	}
	for _, what := range []string{"open 0", "open 10", "open 32", "open 39", "bid true", "bid false"} {
		if seen[what] < 50 {
			t.Errorf("%s: %d times", what, seen[what])
		}
	}
}

// full is a room with 8 asks, most of which both routers bade for.
func full() *Room {
	r := New(both())
	for n, a := range alike()[:8] {
		r.Open(a, n)
		r.Bid(offer(3-n%2, a, 98, 30), n)
		if n != 3 {
			r.Bid(offer(2+n%2, a, 99, 20), n)
		}
	}
	return r
}

// told is all that a room tells, in memory of the test's own.
func told(r *Room) string {
	var out strings.Builder
	for _, a := range append(alike(), r.Asks()...) {
		fmt.Fprintf(&out, "%#v\n%#v\n", a, r.Bids(a))
		for now := range 32 {
			b, ok := r.Best(a, now, 1)
			fmt.Fprintf(&out, "%#v %t\n", b, ok)
		}
	}
	return out.String()
}

// spoil writes over all of a list, as far as it has room.
func spoil[T any](l []T, with T) {
	all := l[:cap(l)]
	for place := range all {
		all[place] = with
	}
}

// spoilAll writes over all that a room's answers have room for.
func spoilAll(r *Room) {
	spoil(r.Asks(), api.Ask{Id: "spoilt"})
	for _, a := range alike() {
		spoil(r.Bids(a), api.Bid{Sig: "spoilt"})
	}
}

// P19.3: answers are new memory: they share none with the room, nor with each other.
func TestMemory(t *testing.T) {
	r := full()
	want := told(r)
	if len(r.Asks()) != 8 || len(r.Bids(alike()[0])) != 2 || len(r.Bids(alike()[3])) != 1 {
		t.Fatalf("%#v", r)
	}
	spoilAll(r)
	if got := told(r); got != want {
		t.Fatalf("what was written over is another in the room:\n%s", got)
	}
	asks, first, more := r.Asks(), r.Bids(alike()[0]), r.Bids(alike()[3])
	keptAsks, keptFirst, keptMore := slices.Clone(asks), slices.Clone(first), slices.Clone(more)
	spoilAll(r)
	asks, more = append(asks, ask("mine")), append(more, api.Bid{Sig: "mine"})
	if !r.Bid(offer(3, alike()[3], 97, 20), 5) && !r.Bid(offer(2, alike()[3], 97, 20), 5) {
		t.Fatal("it is not kept")
	}
	spoilAll(r)
	if !slices.Equal(asks[:8], keptAsks) || !slices.Equal(first, keptFirst) || !slices.Equal(more[:1], keptMore) {
		t.Error("two answers share memory, or what the room was told changed an answer")
	}
	if asks[8].Id != "mine" || more[1].Sig != "mine" {
		t.Error("the room wrote over what was appended")
	}
	if got := r.Bids(alike()[3]); len(got) != 2 || got[0] != keptMore[0] || got[1].Amount != wide.Of(97) {
		t.Errorf("Bids: %#v", got)
	}
}

// P19.3: the roots that are handed in are not changed and not kept.
func TestRootsAreCopied(t *testing.T) {
	roots := append(make([]string, 0, 9), both()...)
	r := New(roots)
	if !slices.Equal(roots, both()) || roots[:3][2] != "" {
		t.Errorf("handed in, and changed: %q", roots)
	}
	spoil(roots, mss.Root("seed"))
	r.Open(ask("a"), 5)
	if r.Bid(by("seed", 0, api.Bid{Router: 2, Ask: ask("a"), Amount: wide.Of(9), Until: 20}), 5) {
		t.Error("the roots handed in are kept")
	}
	if !r.Bid(offer(2, ask("a"), 99, 20), 5) || !r.Bid(offer(3, ask("a"), 99, 20), 5) {
		t.Error("what was handed in, and written over then, is kept")
	}
	if roots[0] != mss.Root("seed") || roots[1] != mss.Root("seed") {
		t.Error("the room wrote into what was handed in")
	}
}

// P3, P19.3: rooms know nothing of each other, whatever is told in between.
func TestTwoRooms(t *testing.T) {
	alone, one, two := New(both()), New(both()), New([]string{rootOf(3), rootOf(2)})
	for n, a := range alike() {
		for _, r := range []*Room{alone, one} {
			r.Open(a, n)
		}
		two.Open(alike()[len(alike())-1-n], n+5)
		b := offer(2+n%2, a, 99, 20)
		alone.Bid(b, n)
		two.Bid(b, n)
		two.Bid(by(bid.Seed(3), n%8, api.Bid{Router: 2, Ask: a, Amount: wide.Of(4), Until: 20}), n)
		one.Bid(b, n)
		spoilAll(two)
	}
	if got, want := told(one), told(alone); got != want {
		t.Errorf("%s\nwant\n%s", got, want)
	}
	if told(two) == told(alone) || len(two.Bids(alike()[7])) == 0 {
		t.Error("too little happened")
	}
}

// P19.3: a room that was copied as a value keeps its own, whoever is told something first.
func TestCopiedAsValue(t *testing.T) {
	r := New(both())
	for n, a := range alike()[:5] {
		r.Open(a, n)
		r.Bid(offer(2, a, 98, 20), n)
	}
	before := told(r)
	first := *r
	more := func(r *Room, id string, n uint64) {
		r.Open(ask(id), int(n))
		r.Bid(offer(3, ask(id), n, 20), 5)
		r.Bid(offer(3, alike()[1], n, 20), 5)
	}
	more(r, "x", 97)
	if got := told(&first); got != before {
		t.Fatalf("the copy is another:\n%s", got)
	}
	behind := told(r)
	more(&first, "y", 96)
	if got := told(r); got != behind || got == before {
		t.Fatalf("the first is another:\n%s", got)
	}
	second := first
	other := told(&first)
	more(&second, "z", 95)
	if got := told(&first); got != other {
		t.Fatalf("the copy is another:\n%s", got)
	}
	if r.Asks()[5].Id != "x" || first.Asks()[5].Id != "y" || second.Asks()[6].Id != "z" {
		t.Error("what was opened is another")
	}
}

// P1: no call panics, whatever it is given; and what may not be is not kept.
func TestOdd(t *testing.T) {
	r, m := begin(both()...)
	opens(t, r, m, ask("a"), 5, api.OK)
	for _, n := range numbers() {
		l := wrong()
		l["odd"] = api.Ask{User: n, Send: n, Recv: n, To: n, Amount: wide.Of(1), Id: "odd"}
		if n == 0 || n == 1 {
			delete(l, "odd")
		}
		for _, a := range l {
			opens(t, r, m, a, n, api.ErrRoute)
			bids(t, r, m, api.Bid{Router: n, Ask: a, Amount: wide.Of(1), Until: n, Sig: strings.Repeat("\x00", 145)}, n, false)
		}
		for _, size := range []int{0, 1, 144, 145, 146, 1024, 1025, 5000} {
			bids(t, r, m, api.Bid{Router: n, Ask: ask("a"), Amount: wide.Of(1), Until: n, Sig: strings.Repeat("\xff", size)}, n, false)
		}
	}
}

// P3 of DOC.md: the same again answers the same, also side by side.
func TestSideBySide(t *testing.T) {
	want := told(full())
	same := make(chan bool)
	for range 4 {
		roots := both()
		all := map[bool][]api.Bid{}
		for n, a := range alike()[:8] {
			all[true] = append(all[true], offer(3-n%2, a, 98, 30))
			all[false] = append(all[false], offer(2+n%2, a, 99, 20))
		}
		go func() {
			r := New(roots)
			for n, a := range alike()[:8] {
				r.Open(a, n)
				r.Bid(all[true][n], n)
				if n != 3 {
					r.Bid(all[false][n], n)
				}
			}
			same <- told(r) == want
		}()
	}
	for range 4 {
		if !<-same {
			t.Error("answers differ when calls run side by side")
		}
	}
}
