package quote

import (
	"math"
	"math/big"
	"math/rand"
	"testing"

	"narrows/api"
)

const last = math.MaxUint64

// top is the greatest number.
func top() api.Wide {
	return api.Wide{last, last, last, last}
}

// great is a as a number of the second writing.
func great(a api.Wide) *big.Int {
	n := new(big.Int)
	for place := len(a) - 1; place >= 0; place-- {
		n.Lsh(n, 64)
		n.Or(n, new(big.Int).SetUint64(a[place]))
	}
	return n
}

// small is a number of the second writing, as a wide one and true; zero and false, if it has no room.
func small(n *big.Int) (api.Wide, bool) {
	if n.Sign() < 0 || n.BitLen() > 256 {
		return api.Wide{}, false
	}
	var a api.Wide
	for place := range a {
		a[place] = new(big.Int).Rsh(n, uint(64*place)).Uint64()
		for b := range 64 {
			if n.Bit(64*place+b) != uint(a[place]>>b&1) {
				panic("the second writing is wrong")
			}
		}
	}
	return a, true
}

// wideOf is a number written in tens.
func wideOf(text string) api.Wide {
	n, ok := new(big.Int).SetString(text, 10)
	a, fits := small(n)
	if !ok || !fits {
		panic(text)
	}
	return a
}

// spread is the second writing of Spread: nothing in it wraps round.
func spread(amount api.Wide, points int) (api.Wide, bool) {
	if points < 0 {
		points = 0
	}
	if points > 10000 {
		points = 10000
	}
	product := new(big.Int).Mul(great(amount), big.NewInt(int64(points)))
	if product.BitLen() > 256 {
		return api.Wide{}, false
	}
	return small(product.Div(product, big.NewInt(10000)))
}

// offer is the second writing of Offer.
func offer(amount api.Wide, points int) (api.Wide, bool) {
	part, ok := spread(amount, points)
	rest := new(big.Int).Sub(great(amount), great(part))
	if !ok || rest.Sign() == 0 {
		return api.Wide{}, false
	}
	return small(rest)
}

// covers is the second writing of Covers.
func covers(vault api.Wide, locked api.Wide, amount api.Wide) bool {
	both := new(big.Int).Add(great(locked), great(amount))
	return both.BitLen() <= 256 && both.Cmp(great(vault)) <= 0
}

// shares are numbers that may be handed in as points.
func shares() []int {
	return []int{
		math.MinInt, math.MinInt + 1, math.MinInt + 30, math.MinInt32, -1 << 40, -10001, -10000, -9999, -100, -30, -2, -1,
		0, 1, 2, 3, 29, 30, 31, 44, 45, 46, 99, 100, 101, 255, 256, 257, 1000, 4999, 5000, 5001, 8191, 8192, 9998, 9999,
		10000, 10001, 10002, 10030, 20000, 1 << 16, 1<<16 + 30, 1 << 32, 1<<32 + 30, 1 << 40, math.MaxInt - 1, math.MaxInt,
	}
}

// amounts are numbers at the edges of words, of 10000, and of what may be multiplied.
func amounts() []api.Wide {
	l := []api.Wide{
		{last}, {0, 1}, {1, 1}, {last, last}, {0, 0, 1}, {last, last, last}, {0, 0, 0, 1}, {0, 0, 0, 1 << 63},
		{last - 1, last, last, last}, top(), {5, 6, 7, 8}, {0, last, 0, last}, {last, 0, last}, {1, 0, 0, 1},
	}
	for _, n := range []uint64{0, 100, 222, 333, 1000, 5000, 10000, 20000, 30000, 1 << 32, 1 << 63} {
		for off := range uint64(5) {
			l = append(l, api.Wide{n + off}, api.Wide{n - off})
		}
	}
	return l
}

// edge is the greatest number whose product with points has room, by division alone.
func edge(points int) *big.Int {
	n := new(big.Int).Lsh(big.NewInt(1), 256)
	n.Sub(n, big.NewInt(1))
	return n.Div(n, big.NewInt(int64(points)))
}

// checkShare holds Spread and Offer of these against the second writing, and against P18.2.
func checkShare(t *testing.T, amount api.Wide, points int) {
	t.Helper()
	want, holds := spread(amount, points)
	if got, ok := Spread(amount, points); got != want || ok != holds {
		t.Fatalf("Spread(%v, %d) = %v, %t, want %v, %t", amount, points, got, ok, want, holds)
	}
	want, holds = offer(amount, points)
	got, ok := Offer(amount, points)
	if got != want || ok != holds {
		t.Fatalf("Offer(%v, %d) = %v, %t, want %v, %t", amount, points, got, ok, want, holds)
	}
	if great(got).Cmp(great(amount)) > 0 {
		t.Fatalf("Offer(%v, %d) = %v: above the amount", amount, points, got)
	}
	if ok && got == (api.Wide{}) {
		t.Fatalf("Offer(%v, %d) is 0, and true", amount, points)
	}
}

// checkCovers holds Covers of these against the second writing.
func checkCovers(t *testing.T, vault api.Wide, locked api.Wide, amount api.Wide) {
	t.Helper()
	if got, want := Covers(vault, locked, amount), covers(vault, locked, amount); got != want {
		t.Fatalf("Covers(%v, %v, %v) = %t, want %t", vault, locked, amount, got, want)
	}
}

// P18.1, the chapter's example: Offer of 1000, 30; and the first of the examples of the whole: of 100 an offer of 100.
func TestExamples(t *testing.T) {
	if got, ok := Offer(api.Wide{1000}, 30); got != (api.Wide{997}) || !ok {
		t.Errorf("Offer(1000, 30) = %v, %t", got, ok)
	}
	if got, ok := Offer(api.Wide{100}, Points(2)); got != (api.Wide{100}) || !ok {
		t.Errorf("Offer(100, 30) = %v, %t", got, ok)
	}
}

// P18.1, Spread: worked out by hand; what is left is gone; of points below 0, or above 10000, that of the nearest.
func TestSpreadByHand(t *testing.T) {
	for _, c := range []struct {
		amount, points, want int
	}{
		{0, 30, 0}, {1, 30, 0}, {333, 30, 0}, {334, 30, 1}, {666, 30, 1}, {667, 30, 2}, {1000, 30, 3}, {10000, 30, 30},
		{222, 45, 0}, {223, 45, 1}, {444, 45, 1}, {445, 45, 2}, {1000, 45, 4}, {10000, 45, 45},
		{99, 100, 0}, {100, 100, 1}, {199, 100, 1}, {200, 100, 2}, {1000, 100, 10},
		{9999, 1, 0}, {10000, 1, 1}, {19999, 1, 1}, {20000, 1, 2}, {1000000, 0, 0}, {1000000, -1, 0}, {1000000, -10000, 0},
		{1, 5000, 0}, {2, 5000, 1}, {3, 5000, 1}, {1, 9999, 0}, {10001, 9999, 9999}, {10000, 9999, 9999}, {2, 9999, 1},
		{0, 10000, 0}, {1, 10000, 1}, {7, 10000, 7}, {7, 10001, 7}, {7, 20000, 7}, {7, math.MaxInt, 7}, {7, math.MinInt, 0},
	} {
		want := api.Wide{uint64(c.want)}
		if got, ok := Spread(api.Wide{uint64(c.amount)}, c.points); got != want || !ok {
			t.Errorf("Spread(%d, %d) = %v, %t, want %d", c.amount, c.points, got, ok, c.want)
		}
	}
}

// P18.1, Offer: worked out by hand; nothing is offered of 0, nor by whoever keeps all.
func TestOfferByHand(t *testing.T) {
	for _, c := range []struct {
		amount, points, want int
	}{
		{0, 30, 0}, {0, 0, 0}, {0, -1, 0}, {0, 10000, 0}, {1, 30, 1}, {333, 30, 333}, {334, 30, 333}, {1000, 30, 997}, {1000, 45, 996},
		{1000, 100, 990}, {1000, 0, 1000}, {1000, -5, 1000}, {1000, math.MinInt, 1000}, {1000, 10000, 0}, {1000, 10001, 0},
		{1000, math.MaxInt, 0}, {1, 9999, 1}, {1, 10000, 0}, {2, 9999, 1}, {10000, 9999, 1}, {10001, 9999, 2}, {9999, 9999, 1},
	} {
		want := api.Wide{uint64(c.want)}
		if got, ok := Offer(api.Wide{uint64(c.amount)}, c.points); got != want || ok != (c.want != 0) {
			t.Errorf("Offer(%d, %d) = %v, %t, want %d", c.amount, c.points, got, ok, c.want)
		}
	}
}

// P18.1: numbers of more than a word, worked out by other means.
func TestGreatByHand(t *testing.T) {
	amount := wideOf("1000000000000000000000000000000000000000000000000000000000000000019999")
	if got, ok := Spread(amount, 30); got != wideOf("3000000000000000000000000000000000000000000000000000000000000000059") || !ok {
		t.Errorf("Spread(%v, 30) = %v, %t", amount, got, ok)
	}
	if got, ok := Offer(amount, 30); got != wideOf("997000000000000000000000000000000000000000000000000000000000000019940") || !ok {
		t.Errorf("Offer(%v, 30) = %v, %t", amount, got, ok)
	}
}

// P18.1: a product of 2^256 - 1 and below has room, of all points there are; one more has none: zero and false.
func TestOverflow(t *testing.T) {
	for points := 1; points <= 10000; points++ {
		n := edge(points)
		fits, _ := small(n)
		if _, ok := Spread(fits, points); !ok {
			t.Fatalf("Spread(%v, %d) = false", fits, points)
		}
		checkShare(t, fits, points)
		if _, ok := Offer(fits, points); ok != (points < 10000) {
			t.Fatalf("Offer(%v, %d) = %t", fits, points, ok)
		}
		if points == 1 {
			continue
		}
		over, _ := small(n.Add(n, big.NewInt(1)))
		for _, amount := range []api.Wide{over, top()} {
			if got, ok := Spread(amount, points); got != (api.Wide{}) || ok {
				t.Fatalf("Spread(%v, %d) = %v, %t", amount, points, got, ok)
			}
			if got, ok := Offer(amount, points); got != (api.Wide{}) || ok {
				t.Fatalf("Offer(%v, %d) = %v, %t", amount, points, got, ok)
			}
		}
	}
}

// P18.1: of the greatest number no points, or one, overflow nothing; points above 10000 are 10000 ahead of the product.
func TestOverflowNearest(t *testing.T) {
	for _, points := range []int{math.MinInt, -10000, -2, -1, 0} {
		if got, ok := Spread(top(), points); got != (api.Wide{}) || !ok {
			t.Errorf("Spread(2^256 - 1, %d) = %v, %t", points, got, ok)
		}
		if got, ok := Offer(top(), points); got != top() || !ok {
			t.Errorf("Offer(2^256 - 1, %d) = %v, %t", points, got, ok)
		}
	}
	if _, ok := Spread(top(), 1); !ok {
		t.Error("Spread(2^256 - 1, 1) = false")
	}
	fits, _ := small(edge(10000))
	for _, points := range []int{10000, 10001, 1 << 32, math.MaxInt} {
		if got, ok := Spread(fits, points); got != fits || !ok {
			t.Errorf("Spread(%v, %d) = %v, %t", fits, points, got, ok)
		}
		if got, ok := Offer(fits, points); got != (api.Wide{}) || ok {
			t.Errorf("Offer(%v, %d) = %v, %t", fits, points, got, ok)
		}
	}
}

// P18.1, P18.2: all edges, of all points, against the second writing.
func TestAllShares(t *testing.T) {
	for _, amount := range amounts() {
		for _, points := range shares() {
			checkShare(t, amount, points)
		}
	}
}

// P18.1, P18.2: every small amount, and every one of the points, against the second writing.
func TestSmallShares(t *testing.T) {
	for amount := range uint64(1200) {
		for _, points := range []int{30, 45, 100, 1, 9999} {
			checkShare(t, api.Wide{amount}, points)
		}
	}
	for points := -2; points <= 10002; points++ {
		checkShare(t, api.Wide{12345}, points)
		checkShare(t, api.Wide{last, last, 3}, points)
	}
}

// anyWide is a number of up to 256 bits, small and great ones alike often.
func anyWide(r *rand.Rand) api.Wide {
	n := new(big.Int)
	for range r.Intn(257) {
		n.Lsh(n, 1)
		n.Add(n, big.NewInt(r.Int63n(2)))
	}
	a, _ := small(n)
	return a
}

// P18.1, P18.2: at random, against the second writing.
func TestSharesAtRandom(t *testing.T) {
	r := rand.New(rand.NewSource(18))
	for range 60000 {
		points := r.Intn(10004) - 2
		if r.Intn(4) == 0 {
			points = int(r.Uint64() >> r.Intn(64))
		}
		checkShare(t, anyWide(r), points)
	}
}

// P18.1, Covers: worked out by hand: as much as there is, is covered; one more is not.
func TestCoversByHand(t *testing.T) {
	for _, c := range []struct {
		vault, locked, amount uint64
		want                  bool
	}{
		{0, 0, 0, true}, {0, 0, 1, false}, {0, 1, 0, false}, {1, 0, 0, true}, {1, 0, 1, true}, {1, 1, 0, true}, {1, 1, 1, false},
		{100, 0, 100, true}, {100, 0, 101, false}, {100, 100, 0, true}, {100, 101, 0, false}, {100, 40, 60, true}, {100, 40, 61, false},
		{100, 41, 60, false}, {100, 40, 59, true}, {100, 60, 40, true}, {100, 1, 1, true}, {100, 100, 100, false},
		{last, last, 0, true}, {last, last, 1, false}, {last, 1, last, false}, {0, last, 1, false}, {0, 1, last, false},
	} {
		if got := Covers(api.Wide{c.vault}, api.Wide{c.locked}, api.Wide{c.amount}); got != c.want {
			t.Errorf("Covers(%d, %d, %d) = %t", c.vault, c.locked, c.amount, got)
		}
	}
}

// P18.1, Covers: what overflows is not covered, by no vault, though what would wrap round is little.
func TestCoversOverflow(t *testing.T) {
	one := api.Wide{1}
	rest := api.Wide{last - 1, last, last, last}
	for _, vault := range []api.Wide{{}, one, {0, 0, 0, 1}, rest, top()} {
		for _, pair := range [][2]api.Wide{{top(), one}, {top(), top()}, {top(), rest}, {{0, 0, 0, 1 << 63}, {0, 0, 0, 1 << 63}}, {rest, {2}}} {
			if Covers(vault, pair[0], pair[1]) || Covers(vault, pair[1], pair[0]) {
				t.Errorf("%v covers %v and %v", vault, pair[0], pair[1])
			}
		}
	}
	if !Covers(top(), top(), api.Wide{}) || !Covers(top(), api.Wide{}, top()) || !Covers(top(), rest, one) || !Covers(top(), one, rest) {
		t.Error("2^256 - 1 does not cover itself")
	}
	if Covers(rest, top(), api.Wide{}) || Covers(rest, api.Wide{}, top()) || Covers(rest, rest, one) {
		t.Error("2^256 - 2 covers 2^256 - 1")
	}
}

// P18.1, Covers: all edges against the second writing, each sum also as the vault, with the one below and the one above.
func TestAllCovers(t *testing.T) {
	l := amounts()
	for _, locked := range l {
		for _, amount := range l {
			for _, vault := range []api.Wide{{}, locked, amount, top(), {last, last}} {
				checkCovers(t, vault, locked, amount)
			}
			both := new(big.Int).Add(great(locked), great(amount))
			for off := int64(-1); off <= 1; off++ {
				if vault, ok := small(new(big.Int).Add(both, big.NewInt(off))); ok {
					checkCovers(t, vault, locked, amount)
				}
			}
		}
	}
}

// P18.1, Covers: at random, near the sum and far away, against the second writing.
func TestCoversAtRandom(t *testing.T) {
	r := rand.New(rand.NewSource(19))
	held := 0
	for range 60000 {
		locked, amount, vault := anyWide(r), anyWide(r), anyWide(r)
		if r.Intn(2) == 0 {
			both := new(big.Int).Add(great(locked), great(amount))
			vault, _ = small(both.Add(both, big.NewInt(r.Int63n(5)-2)))
		}
		checkCovers(t, vault, locked, amount)
		if Covers(vault, locked, amount) {
			held++
		}
	}
	if held < 20000 || held > 50000 {
		t.Errorf("too little held, or too much: %d", held)
	}
}

// P18.1, Points: 30 of 2, 45 of 3, else 100, whoever it is.
func TestPoints(t *testing.T) {
	want := map[int]int{2: 30, 3: 45}
	for router := -300; router <= 70000; router++ {
		points, ok := want[router]
		if !ok {
			points = 100
		}
		if got := Points(router); got != points {
			t.Errorf("Points(%d) = %d, want %d", router, got, points)
		}
	}
	for _, router := range []int{math.MinInt, math.MinInt + 1, math.MinInt + 2, math.MinInt + 3, -1 << 32, 1<<32 + 2, 1<<32 + 3, 1 << 40, math.MaxInt - 1, math.MaxInt} {
		if got := Points(router); got != 100 {
			t.Errorf("Points(%d) = %d, want 100", router, got)
		}
	}
}

// answers are what all calls answer of these numbers.
type answers struct {
	spread, offer   api.Wide
	spreads, offers bool
	covers          bool
	points          int
}

// of asks all calls.
func of(vault api.Wide, locked api.Wide, amount api.Wide, number int) answers {
	var a answers
	a.spread, a.spreads = Spread(amount, number)
	a.offer, a.offers = Offer(amount, number)
	a.covers = Covers(vault, locked, amount)
	a.points = Points(number)
	return a
}

// P18.3, P3: nothing is kept from call to call: whatever was asked ahead, the same is answered, also in reverse.
func TestNothingKept(t *testing.T) {
	type asked struct {
		vault, locked, amount api.Wide
		number                int
	}
	r := rand.New(rand.NewSource(20))
	var l []asked
	var told []answers
	for range 4000 {
		l = append(l, asked{anyWide(r), anyWide(r), anyWide(r), r.Intn(60) - 5})
	}
	for _, a := range l {
		told = append(told, of(a.vault, a.locked, a.amount, a.number))
	}
	for place := len(l) - 1; place >= 0; place-- {
		a := l[place]
		of(anyWide(r), anyWide(r), anyWide(r), r.Intn(20000))
		if got := of(a.vault, a.locked, a.amount, a.number); got != told[place] {
			t.Fatalf("%v: %v, and %v ahead", a, got, told[place])
		}
	}
}

// P18.3, P2: numbers are handed in, and answered, as copies: to spoil an answer changes no other one.
func TestCopies(t *testing.T) {
	amount := api.Wide{1000, 1, 2, 3}
	kept := amount
	part, _ := Spread(amount, 30)
	rest, _ := Offer(amount, 30)
	all, _ := Offer(amount, 0)
	if amount != kept || all != kept {
		t.Errorf("%v, handed in as %v, is offered as %v", amount, kept, all)
	}
	for place := range amount {
		part[place], rest[place], all[place] = 7, 7, 7
	}
	if amount != kept {
		t.Errorf("%v, handed in as %v", amount, kept)
	}
	wantPart, _ := spread(kept, 30)
	wantRest, _ := offer(kept, 30)
	againPart, _ := Spread(amount, 30)
	againRest, _ := Offer(amount, 30)
	if againPart != wantPart || againRest != wantRest {
		t.Errorf("%v and %v, want %v and %v", againPart, againRest, wantPart, wantRest)
	}
}

// P18.3, P3: asked by many at once, all are told the same.
func TestManyAtOnce(t *testing.T) {
	ask := func() answers {
		return of(api.Wide{0, 5}, api.Wide{7, 2}, api.Wide{1000, 2}, 30)
	}
	want := ask()
	told := make(chan answers)
	for n := range 16 {
		go func() {
			of(top(), api.Wide{uint64(n)}, top(), n)
			told <- ask()
		}()
	}
	for range 16 {
		if got := <-told; got != want {
			t.Errorf("%v, want %v", got, want)
		}
	}
}
