package chain

import (
	"fmt"
	"math"
	"math/big"
	"math/rand"
	"reflect"
	"slices"
	"strings"
	"testing"

	"narrows/api"
	"narrows/deal"
	"narrows/escrow"
	"narrows/mss"
	"narrows/txs"
	"narrows/wide"
)

// model is a ledger, written a second time.
type model struct {
	state  escrow.State
	pool   []api.Tx
	events []api.Event
}

// submit is Submit, written a second time.
func (m *model) submit(t api.Tx) bool {
	for _, other := range m.pool {
		if reflect.DeepEqual(other, t) {
			return false
		}
	}
	if len(m.pool) == 128 || txs.Check(t) != api.OK {
		return false
	}
	m.pool = append(slices.Clone(m.pool), t)
	return true
}

// include is Include, written a second time.
func (m *model) include(i int) bool {
	if len(m.pool) == 0 {
		return false
	}
	// The library's Mod is never below 0.
	place := new(big.Int).Mod(big.NewInt(int64(i)), big.NewInt(int64(len(m.pool)))).Int64()
	x := m.pool[place]
	next, code, taken := escrow.Apply(m.state, x)
	if taken {
		m.events = append(slices.Clone(m.events), api.Event{Time: m.state.Time, Code: code, Tx: x})
		m.state = next
		m.pool = slices.Delete(slices.Clone(m.pool), int(place), int(place)+1)
	}
	return taken
}

// next is Next, written a second time.
func (m *model) next(account int) int {
	if account < 0 || account > 7 {
		return 0
	}
	waiting := map[int]bool{}
	for _, x := range m.pool {
		if x.From == account {
			waiting[x.Nonce] = true
		}
	}
	n := m.state.Nonces[account]
	for waiting[n] {
		n++
	}
	return n
}

// waits is Waits, written a second time.
func (m *model) waits(account int, key string, kind int) bool {
	count := 0
	for _, x := range m.pool {
		if x.From == account && x.Kind == kind && deal.Key(x.Inv) == key && key != "" {
			count++
		}
	}
	return count > 0
}

// numbers are places and counts of any size.
func numbers() []int {
	return []int{math.MinInt, math.MinInt + 1, math.MinInt + 2, -1 << 40, -1 << 32, -257, -129, -128, -127, -9, -8, -7, -6, -5, -4, -3, -2, -1,
		0, 1, 2, 3, 4, 5, 6, 7, 8, 9, 127, 128, 129, 255, 256, 257, 1 << 32, 1<<40 - 1, 1 << 40, 1<<40 + 1, math.MaxInt - 2, math.MaxInt - 1, math.MaxInt}
}

// is tells it, if the ledger answers otherwise than the model.
func is(t *testing.T, what string, c *Chain, m *model) {
	t.Helper()
	if got := c.State(); !reflect.DeepEqual(withLocks(got), withLocks(m.state)) {
		t.Fatalf("%s: State() =\n%#v; want\n%#v", what, got, m.state)
	}
	if got := c.Time(); got != m.state.Time {
		t.Fatalf("%s: Time() = %d, want %d", what, got, m.state.Time)
	}
	if got := c.Pool(); !slices.Equal(got, m.pool) {
		t.Fatalf("%s: Pool() =\n%#v; want\n%#v", what, got, m.pool)
	}
	for _, from := range append(numbers(), len(m.events)-1, len(m.events), len(m.events)+1) {
		want := m.events[min(max(from, 0), len(m.events)):]
		if got := c.Events(from); !slices.Equal(got, want) {
			t.Fatalf("%s: Events(%d) =\n%#v; want\n%#v", what, from, got, want)
		}
	}
	for _, account := range numbers() {
		if got := c.Next(account); got != m.next(account) {
			t.Fatalf("%s: Next(%d) = %d, want %d", what, account, got, m.next(account))
		}
	}
}

// withLocks is the state with a list of locks, if it has none: nil and empty are one.
func withLocks(s escrow.State) escrow.State {
	s.Locks = append([]escrow.Lock{}, s.Locks...)
	return s
}

// waitsAlike tells it, if of these transfers, and of others, the ledger says otherwise than the model what waits.
func waitsAlike(t *testing.T, what string, c *Chain, m *model, keys []string) {
	t.Helper()
	for _, key := range append(slices.Clone(keys), "", "key", strings.Repeat("\x00", 32)) {
		for account := -1; account <= 8; account++ {
			for kind := -1; kind <= 7; kind++ {
				if got := c.Waits(account, key, kind); got != m.waits(account, key, kind) {
					t.Fatalf("%s: Waits(%d, %q, %d) = %t", what, account, key, kind, got)
				}
			}
		}
	}
}

// begin is a ledger, and its model.
func begin(side int, time int) (*Chain, *model) {
	return New(side, time), &model{state: escrow.Genesis(side, time)}
}

// submit lets both wait for it, and tells it, if they answer otherwise than it should be.
func submit(t *testing.T, c *Chain, m *model, x api.Tx, want bool) {
	t.Helper()
	if got, second := c.Submit(x), m.submit(x); got != want || second != want {
		t.Fatalf("Submit(%#v) = %t (the second writing: %t), want %t", x, got, second, want)
	}
	is(t, "behind Submit", c, m)
}

// include lets both include the i-th, and tells it, if they answer otherwise than it should be.
func include(t *testing.T, c *Chain, m *model, i int, want bool) {
	t.Helper()
	if got, second := c.Include(i), m.include(i); got != want || second != want {
		t.Fatalf("Include(%d) = %t (the second writing: %t), want %t", i, got, second, want)
	}
	is(t, "behind Include", c, m)
}

// roots and signatures are made once: they take long.
var (
	roots      = map[int]string{}
	signatures = map[string]string{}
)

// seedOf is the seed of a user's key, rootOf its root.
func seedOf(user int) string {
	return fmt.Sprint("user ", user)
}

func rootOf(user int) string {
	if roots[user] == "" {
		roots[user] = mss.Root(seedOf(user))
	}
	return roots[user]
}

// sign is the user's signature of an act.
func sign(i api.Inv, act int, fee api.Wide) string {
	name := fmt.Sprint(i, act, fee)
	if signatures[name] == "" {
		signatures[name], _, _ = mss.Sign(api.Key{Seed: seedOf(i.User), Next: act}, deal.Payload(act, deal.Key(i), fee))
	}
	return signatures[name]
}

// trade is a transfer of a user.
func trade(user int, router int, id string) api.Inv {
	return api.Inv{User: user, Root: rootOf(user), Router: router, Send: 0, Recv: 1, To: 5, Id: id}
}

// pay is a transfer of n of asset 1.
func pay(from int, nonce int, n uint64) api.Tx {
	return api.Tx{From: from, Nonce: nonce, Kind: 1, Asset: 1, Amount: wide.Of(n), Inv: api.Inv{To: 6}}
}

// act is a transaction of kind 4 to 6 of a transfer, till 1010, signed where it has to be.
func act(from int, nonce int, kind int, i api.Inv) api.Tx {
	x := api.Tx{From: from, Nonce: nonce, Kind: kind, Inv: i, Var: api.Var{Amount: wide.Of(100), Expiry: 1010}}
	if kind > 4 {
		x.Fee = wide.Of(1)
		x.Sig = sign(i, kind-4, x.Fee)
	}
	return x
}

// P13.1, the chapter's example, and that of the stage's test.
func TestExamples(t *testing.T) {
	c := New(0, 1)
	for _, i := range numbers() {
		if c.Include(i) {
			t.Errorf("nothing waits: Include(%d) is true", i)
		}
	}
	if !c.Submit(api.Tx{Kind: 1, Amount: api.Wide{1}}) {
		t.Error("Submit is false")
	}
}

// P13.1, New: of escrow.Genesis, and nothing waits, nor did anything happen.
func TestNew(t *testing.T) {
	for _, side := range []int{0, 1, 2, 3, 256, 1 << 32, math.MaxInt, -1, -2, -255, math.MinInt} {
		for _, time := range []int{0, 1, 1000, 1<<40 - 1, 1 << 40, 1<<40 + 1, math.MaxInt, -1, -1000, math.MinInt} {
			c, m := begin(side, time)
			is(t, fmt.Sprintf("New(%d, %d)", side, time), c, m)
			waitsAlike(t, "new", c, m, nil)
			if len(c.Pool()) != 0 || len(c.Events(0)) != 0 {
				t.Errorf("New(%d, %d): something is there", side, time)
			}
		}
	}
	want := escrow.Genesis(1, 77)
	if got := New(1, 77).State(); got.Side != 1 || got.Time != 77 || got.Purse != want.Purse || len(got.Locks) != 0 {
		t.Errorf("New(1, 77): %#v", got)
	}
}

// P13.1, Submit: it waits behind the others, in the order in which they came, whatever its sender, Nonce and kind; nothing else changes.
func TestSubmit(t *testing.T) {
	for side := range 2 {
		c, m := begin(side, 1000)
		var l []api.Tx
		for kind := 4; kind <= 6; kind++ {
			l = append(l, act(7-kind, 3*kind, kind, trade(kind%2, 2, "a")))
		}
		l = append(l, pay(5, 9, 1), pay(5, 0, 1), pay(0, 1<<40, 1), pay(7, 0, 5000),
			api.Tx{Kind: 2, From: 1, Amount: wide.Of(3), Inv: api.Inv{Router: 3}},
			api.Tx{Kind: 3, From: 4, Amount: wide.Of(3)})
		for many, x := range l {
			submit(t, c, m, x, true)
			if got := c.Pool(); !slices.Equal(got, l[:many+1]) {
				t.Fatalf("Pool() = %#v", got)
			}
		}
		if s := c.State(); !reflect.DeepEqual(withLocks(s), withLocks(escrow.Genesis(side, 1000))) || len(c.Events(0)) != 0 {
			t.Error("what waits changed the state, or stands in the events")
		}
	}
}

// refused are transactions that txs.Check refuses, by each of its errors.
func refused() map[string]api.Tx {
	whole := act(0, 0, 5, trade(0, 2, "a"))
	with := func(x api.Tx, set func(*api.Tx)) api.Tx {
		set(&x)
		return x
	}
	return map[string]api.Tx{
		"nothing":    {},
		"kind 0":     with(whole, func(x *api.Tx) { x.Kind = 0 }),
		"kind 7":     with(whole, func(x *api.Tx) { x.Kind = 7 }),
		"kind below": with(whole, func(x *api.Tx) { x.Kind = math.MinInt }),
		"sender 8":   with(whole, func(x *api.Tx) { x.From = 8 }),
		"sender -1":  with(pay(0, 0, 1), func(x *api.Tx) { x.From = -1 }),
		"nonce":      with(whole, func(x *api.Tx) { x.Nonce = 1<<40 + 1 }),
		"nonce -1":   with(pay(0, 0, 1), func(x *api.Tx) { x.Nonce = -1 }),
		"asset":      with(pay(0, 0, 1), func(x *api.Tx) { x.Asset = 2 }),
		"amount":     pay(0, 0, 0),
		"to":         with(pay(0, 0, 1), func(x *api.Tx) { x.Inv.To = 8 }),
		"router":     with(pay(0, 0, 1), func(x *api.Tx) { x.Kind = 2 }),
		"user":       with(whole, func(x *api.Tx) { x.Inv.User = 2 }),
		"no id":      with(whole, func(x *api.Tx) { x.Inv.Id = "" }),
		"no amount":  with(whole, func(x *api.Tx) { x.Var.Amount = api.Wide{} }),
		"expiry":     with(whole, func(x *api.Tx) { x.Var.Expiry = -1 }),
		"signature":  with(whole, func(x *api.Tx) { x.Sig = strings.Repeat("s", 1025) }),
	}
}

// P13.1, Submit: what txs.Check refuses does not wait.
func TestSubmitRefuses(t *testing.T) {
	for name, x := range refused() {
		if txs.Check(x) == api.OK {
			t.Fatalf("%s: txs.Check does not refuse it", name)
		}
		c, m := begin(0, 1000)
		submit(t, c, m, x, false)
		submit(t, c, m, pay(0, 0, 1), true)
		submit(t, c, m, x, false)
		if len(c.Pool()) != 1 {
			t.Errorf("%s: it waits", name)
		}
	}
}

// others are what makes a transaction another one, one field each; but for kind all stay what may be.
func others() []func(*api.Tx) {
	l := []func(*api.Tx){
		func(x *api.Tx) { x.From ^= 1 },
		func(x *api.Tx) { x.Nonce++ },
		func(x *api.Tx) { x.Asset ^= 1 },
		func(x *api.Tx) { x.Inv.User ^= 1 },
		func(x *api.Tx) { x.Inv.Root = "rootroot" },
		func(x *api.Tx) { x.Inv.Router ^= 1 },
		func(x *api.Tx) { x.Inv.Send ^= 1 },
		func(x *api.Tx) { x.Inv.Recv ^= 1 },
		func(x *api.Tx) { x.Inv.To ^= 1 },
		func(x *api.Tx) { x.Inv.Id += "\x00" },
		func(x *api.Tx) { x.Var.Expiry++ },
		func(x *api.Tx) { x.Sig += "\x00" },
	}
	for word := range 4 {
		l = append(l,
			func(x *api.Tx) { x.Amount[word]++ },
			func(x *api.Tx) { x.Var.Amount[word]++ },
			func(x *api.Tx) { x.Fee[word]++ })
	}
	return l
}

// P13.1, Submit: the same one does not wait twice, but what is unlike in any field does, also in one that is not put.
func TestSubmitSame(t *testing.T) {
	for kind := 1; kind <= 6; kind++ {
		base := act(0, 0, 5, trade(0, 2, "a"))
		base.Kind, base.Amount = kind, wide.Of(7)
		c, m := begin(0, 1000)
		submit(t, c, m, base, true)
		submit(t, c, m, base, false)
		for place, change := range others() {
			x := base
			change(&x)
			submit(t, c, m, x, true)
			submit(t, c, m, x, false)
			submit(t, c, m, base, false)
			if got := len(c.Pool()); got != place+2 {
				t.Fatalf("kind %d: %d wait", kind, got)
			}
		}
		x := base
		x.Kind = 1 + kind%6
		submit(t, c, m, x, true)
	}
}

// P13.1, Submit: the same one may wait again, when the first was included.
func TestSubmitAgain(t *testing.T) {
	c, m := begin(0, 1000)
	submit(t, c, m, pay(3, 0, 2), true)
	submit(t, c, m, pay(3, 0, 2), false)
	include(t, c, m, 0, true)
	submit(t, c, m, pay(3, 0, 2), true)
	submit(t, c, m, pay(3, 0, 2), false)
	include(t, c, m, 0, false)
	if len(c.Pool()) != 1 || len(c.Events(0)) != 1 {
		t.Error("it waits on, for its Nonce is over")
	}
}

// P13.1, Submit: 128 wait at most; what is included makes room.
func TestSubmitFull(t *testing.T) {
	c, m := begin(0, 1000)
	for nonce := range 128 {
		submit(t, c, m, pay(2, nonce, 1), true)
	}
	submit(t, c, m, pay(2, 128, 1), false)
	submit(t, c, m, pay(2, 0, 1), false)
	submit(t, c, m, pay(3, 0, 1), false)
	if got := len(c.Pool()); got != 128 {
		t.Fatalf("%d wait", got)
	}
	if got := c.Next(2); got != 128 {
		t.Fatalf("Next(2) = %d", got)
	}
	include(t, c, m, 1, false)
	submit(t, c, m, pay(3, 0, 1), false)
	include(t, c, m, 0, true)
	submit(t, c, m, pay(3, 0, 1), true)
	submit(t, c, m, pay(3, 1, 1), false)
	if got := c.Pool()[127]; got != pay(3, 0, 1) {
		t.Errorf("the last that waits is %#v", got)
	}
}

// P13.1, Include: i is taken modulo how many wait, never below 0.
func TestIncludeModulo(t *testing.T) {
	for many := 1; many <= 8; many++ {
		for _, i := range append(numbers(), 720720, -720720, 720719, -720719) {
			c, m := begin(0, 1000)
			for account := range many {
				submit(t, c, m, pay(account, 0, uint64(account)+1), true)
			}
			place := int(new(big.Int).Mod(big.NewInt(int64(i)), big.NewInt(int64(many))).Int64())
			include(t, c, m, i, true)
			if got := c.Events(0); len(got) != 1 || got[0] != (api.Event{Time: 1000, Tx: pay(place, 0, uint64(place)+1)}) {
				t.Fatalf("Include(%d) of %d: %#v", i, many, got)
			}
			for behind, x := range c.Pool() {
				if behind >= place {
					behind++
				}
				if x.From != behind {
					t.Fatalf("Include(%d) of %d: %d waits at another place", i, many, x.From)
				}
			}
		}
	}
}

// P13.1, Include: its event tells when, what it reverted with, and it, as it was submitted, with fields that are not put, too.
func TestIncludeEvents(t *testing.T) {
	c, m := begin(0, 1000)
	odd := pay(0, 0, 100)
	odd.Inv, odd.Var, odd.Fee, odd.Sig = api.Inv{User: 9, To: 6, Id: "odd"}, api.Var{Expiry: -5}, wide.Of(8), strings.Repeat("s", 2000)
	l := []api.Tx{odd, pay(0, 1, 5000), pay(1, 0, 1000), act(0, 2, 5, trade(0, 2, "a")), pay(1, 1, 1)}
	for _, x := range l {
		submit(t, c, m, x, true)
	}
	for range l {
		include(t, c, m, 0, true)
		c.Rise(3)
		m.state = escrow.Rise(m.state, 3)
	}
	want := []api.Event{
		{Time: 1000, Code: api.OK, Tx: l[0]},
		{Time: 1003, Code: api.ErrFunds, Tx: l[1]},
		{Time: 1006, Code: api.OK, Tx: l[2]},
		{Time: 1009, Code: api.ErrStatus, Tx: l[3]},
		{Time: 1012, Code: api.ErrFunds, Tx: l[4]},
	}
	if got := c.Events(0); !slices.Equal(got, want) {
		t.Errorf("Events(0) =\n%#v; want\n%#v", got, want)
	}
	s := c.State()
	if s.Burnt != wide.Of(5) || s.Nonces != [8]int{3, 2} || s.Purse[0] != [2]api.Wide{wide.Of(997), wide.Of(900)} || s.Purse[6][1] != wide.Of(2100) {
		t.Errorf("State() = %#v", s)
	}
}

// P13.1, Include: what is not taken waits on, where it stood, till it can be; nothing else changes.
func TestIncludeWaitsOn(t *testing.T) {
	c, m := begin(0, 1000)
	l := []api.Tx{pay(5, 2, 1), pay(5, 1, 1), pay(5, 0, 1)}
	for _, x := range l {
		submit(t, c, m, x, true)
	}
	for _, i := range []int{0, 1, -2, -3} {
		include(t, c, m, i, false)
		if got := c.Pool(); !slices.Equal(got, l) || len(c.Events(0)) != 0 {
			t.Fatalf("%#v", got)
		}
	}
	include(t, c, m, 2, true)
	include(t, c, m, 0, false)
	include(t, c, m, 1, true)
	include(t, c, m, 5, true)
	include(t, c, m, 0, false)
	if got := c.Events(0); len(got) != 3 || got[0].Tx != l[2] || got[1].Tx != l[1] || got[2].Tx != l[0] {
		t.Errorf("%#v", got)
	}
}

// P13.1, Include: who has no coin waits, till somebody pays one.
func TestIncludeWithoutCoin(t *testing.T) {
	c, m := begin(1, 1000)
	all := api.Tx{From: 7, Kind: 1, Amount: wide.Of(999), Inv: api.Inv{To: 0}}
	coin := api.Tx{From: 0, Kind: 1, Amount: wide.Of(1), Inv: api.Inv{To: 7}}
	submit(t, c, m, all, true)
	include(t, c, m, 0, true)
	submit(t, c, m, pay(7, 1, 1), true)
	submit(t, c, m, coin, true)
	include(t, c, m, 0, false)
	include(t, c, m, 1, true)
	include(t, c, m, 0, true)
	if got := c.State(); got.Purse[7] != [2]api.Wide{{}, wide.Of(999)} || len(c.Pool()) != 0 || len(c.Events(0)) != 3 {
		t.Errorf("%#v", got)
	}
}

// P13.1: a trade, from both vaults to the end, and what is past, on a ledger of each side.
func TestTrade(t *testing.T) {
	for side := range 2 {
		c, m := begin(side, 1000)
		a, b := trade(0, 2, "a"), trade(1, 2, "b")
		steps := []api.Tx{
			{From: 2, Kind: 2, Asset: 1, Amount: wide.Of(400), Inv: api.Inv{Router: 2}},
			act([]int{0, 2}[side], side, 4, a),
			act([]int{1, 2}[side], 2*side, 4, b),
			act(4, 0, 5, a),
			act(2, []int{1, 3}[side], 6, b),
			act(4, 1, 6, a),
		}
		for place, x := range steps {
			submit(t, c, m, x, true)
			include(t, c, m, place, true)
		}
		codes := []api.Errno{api.OK, api.OK, api.OK, api.OK, api.OK, api.ErrStatus}
		for place, e := range c.Events(0) {
			if e.Code != codes[place] || e.Time != 1000 || e.Tx != steps[place] {
				t.Errorf("side %d: event %d is %#v", side, place, e)
			}
		}
		s := c.State()
		if len(s.Locks) != 2 || escrow.Status(s, deal.Key(a)) != 2 || escrow.Status(s, deal.Key(b)) != 3 {
			t.Errorf("side %d: %#v", side, s.Locks)
		}
	}
}

// P13.1, Rise: as escrow.Rise; what waits waits on, what stands stands.
func TestRise(t *testing.T) {
	for _, time := range []int{0, 1000, 1<<40 - 1, 1 << 40} {
		for _, ticks := range numbers() {
			c, m := begin(1, time)
			submit(t, c, m, pay(1, 0, 1), true)
			submit(t, c, m, pay(1, 1, 1), true)
			include(t, c, m, 0, true)
			c.Rise(ticks)
			m.state = escrow.Rise(m.state, ticks)
			is(t, fmt.Sprintf("Rise(%d) at %d", ticks, time), c, m)
			include(t, c, m, 0, true)
			if got := c.Events(1)[0].Time; got != m.state.Time {
				t.Errorf("Rise(%d) at %d: the event is at %d", ticks, time, got)
			}
		}
	}
	c := New(0, 5)
	c.Rise(0)
	c.Rise(-3)
	c.Rise(2)
	c.Rise(4)
	if c.Time() != 11 || c.State().Time != 11 {
		t.Errorf("Time() = %d", c.Time())
	}
}

// P13.1, Events: from each place on; below 0 all, behind the last nothing.
func TestEvents(t *testing.T) {
	c := New(0, 1000)
	var all []api.Event
	for n := range 40 {
		x := pay(n%8, n/8, uint64(n)+1)
		c.Submit(x)
		c.Include(0)
		c.Rise(n % 3)
		all = append(all, api.Event{Time: c.Time() - n%3, Tx: x})
		for from := -2; from <= len(all)+2; from++ {
			if got, want := c.Events(from), all[min(max(from, 0), len(all)):]; !slices.Equal(got, want) {
				t.Fatalf("Events(%d) of %d: %d, want %d", from, len(all), len(got), len(want))
			}
		}
	}
	for _, from := range []int{40, 41, 1 << 40, math.MaxInt} {
		if got := c.Events(from); len(got) != 0 {
			t.Errorf("Events(%d): %d", from, len(got))
		}
	}
	for _, from := range []int{0, -1, -40, -41, math.MinInt} {
		if got := c.Events(from); len(got) != 40 {
			t.Errorf("Events(%d): %d", from, len(got))
		}
	}
}

// P13.1, Next: the Nonce, and as many more as wait whose Nonces go on so, whatever their order, and how often each is there.
func TestNext(t *testing.T) {
	c, m := begin(0, 1000)
	waiting := []struct{ from, nonce, next3, next4 int }{
		{3, 2, 0, 0}, {3, 1, 0, 0}, {4, 0, 0, 1}, {4, 2, 0, 1}, {3, 5, 0, 1}, {3, 0, 3, 1}, {3, 0, 3, 1}, {3, 4, 3, 1}, {4, 1, 3, 3}, {3, 1, 3, 3}, {3, 3, 6, 3}, {4, 9, 6, 3}, {3, 1 << 40, 6, 3},
	}
	for place, w := range waiting {
		submit(t, c, m, pay(w.from, w.nonce, uint64(place)+1), true)
		if c.Next(3) != w.next3 || c.Next(4) != w.next4 || c.Next(0) != 0 || c.Next(7) != 0 {
			t.Fatalf("behind %v: Next %d, %d", w, c.Next(3), c.Next(4))
		}
	}
	for _, account := range append(numbers(), 8, -8) {
		if want := m.next(account); c.Next(account) != want {
			t.Errorf("Next(%d) = %d, want %d", account, c.Next(account), want)
		}
	}
	include(t, c, m, 5, true)
	if c.State().Nonces[3] != 1 || c.Next(3) != 6 {
		t.Errorf("Next(3) = %d", c.Next(3))
	}
	for range 5 {
		for i := range c.Pool() {
			c.Include(i)
			m.include(i)
		}
	}
	is(t, "behind all", c, m)
	if s := c.State(); s.Nonces[3] != 6 || s.Nonces[4] != 3 || c.Next(3) != 6 || c.Next(4) != 3 || len(c.Pool()) != 4 {
		t.Errorf("Nonces %v, Next %d, %d", s.Nonces, c.Next(3), c.Next(4))
	}
}

// P13.1, Next: each account's own, also where only one of a pool is its.
func TestNextOfEach(t *testing.T) {
	for account := range 8 {
		c, m := begin(account%2, 1000)
		for other := range 8 {
			submit(t, c, m, pay(other, 1, 1), true)
		}
		submit(t, c, m, pay(account, 0, 1), true)
		for other := range 8 {
			want := 0
			if other == account {
				want = 2
			}
			if got := c.Next(other); got != want {
				t.Errorf("Next(%d) = %d, want %d", other, got, want)
			}
		}
	}
}

// P13.1, Waits: one of just that sender, kind and key, from Submit on till it is included.
func TestWaits(t *testing.T) {
	for kind := 4; kind <= 6; kind++ {
		for from := range 8 {
			i := trade(from%2, 2+from/2%2, "a")
			keys := []string{deal.Key(i), deal.Key(trade(from%2, 2+from/2%2, "b")), deal.Key(i)[:31], deal.Key(i) + "\x00"}
			c, m := begin(0, 1000)
			submit(t, c, m, pay(from, 0, 1), true)
			waitsAlike(t, "ahead", c, m, keys)
			submit(t, c, m, act(from, 1, kind, i), true)
			waitsAlike(t, "while it waits", c, m, keys)
			for account := -1; account <= 8; account++ {
				for other := 0; other <= 7; other++ {
					if got, want := c.Waits(account, keys[0], other), account == from && other == kind; got != want {
						t.Errorf("Waits(%d, key, %d) = %t", account, other, got)
					}
				}
			}
			include(t, c, m, 1, false)
			if !c.Waits(from, keys[0], kind) {
				t.Error("what is not taken waits on")
			}
			include(t, c, m, 0, true)
			include(t, c, m, 0, true)
			if c.Waits(from, keys[0], kind) {
				t.Error("what was included waits")
			}
			waitsAlike(t, "behind", c, m, keys)
		}
	}
}

// P13.1, Waits: any one that waits counts, not the first, or last, alone.
func TestWaitsAmongOthers(t *testing.T) {
	c, m := begin(0, 1000)
	var keys []string
	for n := range 6 {
		i := trade(n%2, 2+n/2%2, fmt.Sprint("id ", n))
		keys = append(keys, deal.Key(i))
		submit(t, c, m, act(n, n, 4+n%3, i), true)
		submit(t, c, m, act(7, n, 4, trade(0, 2, "a")), true)
	}
	waitsAlike(t, "among others", c, m, append(keys, deal.Key(trade(0, 2, "a"))))
	for n, key := range keys {
		if !c.Waits(n, key, 4+n%3) || c.Waits(7, key, 4) || c.Waits(n, key, 4+(n+1)%3) || c.Waits(n, deal.Key(trade(0, 2, "a")), 4) {
			t.Errorf("what waits of %d is not told", n)
		}
	}
}

// P13.1, Waits: of the empty text no, though what moves something may have a transfer that may not be, and so no key.
func TestWaitsWithoutKey(t *testing.T) {
	c, m := begin(0, 1000)
	for kind := 1; kind <= 3; kind++ {
		x := pay(2, 0, 1)
		x.Kind, x.Inv.Router = kind, 2
		if deal.Key(x.Inv) != "" {
			t.Fatal("the transfer has a key")
		}
		submit(t, c, m, x, true)
		if c.Waits(2, "", kind) {
			t.Errorf("of the empty text one of kind %d waits", kind)
		}
	}
	waitsAlike(t, "without a key", c, m, []string{deal.Key(trade(0, 2, "a"))})
}

// P13.1, Waits: of each kind, by the transfer that stands in it.
func TestWaitsOfEachKind(t *testing.T) {
	for kind := 1; kind <= 6; kind++ {
		c, m := begin(0, 1000)
		x := act(2, 0, 5, trade(0, 2, "a"))
		x.Kind, x.Amount = kind, wide.Of(1)
		submit(t, c, m, x, true)
		if !c.Waits(2, deal.Key(x.Inv), kind) {
			t.Errorf("one of kind %d waits", kind)
		}
		waitsAlike(t, "of each kind", c, m, []string{deal.Key(x.Inv)})
	}
}

// P13.1: of one that nobody made: false, zero, nothing; and nothing is told to it.
func TestNobodyMade(t *testing.T) {
	var zero Chain
	for name, c := range map[string]*Chain{"nil": nil, "zero": &zero, "new": new(Chain), "literal": {}} {
		for range 2 {
			if c.Submit(pay(0, 0, 1)) || c.Submit(act(0, 0, 4, trade(0, 2, "a"))) {
				t.Errorf("%s: Submit is true", name)
			}
			for _, n := range numbers() {
				c.Rise(n)
				if c.Include(n) || c.Next(n) != 0 || len(c.Events(n)) != 0 || c.Waits(n, deal.Key(trade(0, 2, "a")), 4) || c.Waits(n, "", n) || c.Waits(n, "", 0) {
					t.Errorf("%s: something is there, for %d", name, n)
				}
			}
			if c.Time() != 0 || len(c.Pool()) != 0 || !reflect.DeepEqual(withLocks(c.State()), withLocks(escrow.State{})) {
				t.Errorf("%s: something is there", name)
			}
		}
		if c != nil && !reflect.DeepEqual(*c, Chain{}) {
			t.Errorf("%s: something was told to it", name)
		}
	}
}

// anyTx is a transaction that often can be taken, and done.
func anyTx(r *rand.Rand, m *model) api.Tx {
	i := trade(r.Intn(2), 2+r.Intn(2), string('a'+rune(r.Intn(3))))
	x := api.Tx{From: r.Intn(8), Kind: 1 + r.Intn(6), Asset: r.Intn(2), Amount: wide.Of(uint64(r.Intn(30))), Inv: i}
	x.Var = api.Var{Amount: wide.Of(10), Expiry: 40 * (1 + m.state.Time/40)}
	if r.Intn(8) == 0 {
		x.Amount = wide.Of(3000)
	}
	if x.Kind == 4 {
		x.From = []int{i.User, i.Router}[m.state.Side]
	}
	if x.Kind > 4 {
		x.Fee = wide.Of(uint64(r.Intn(2)))
		x.Sig = sign(i, x.Kind-4, x.Fee)
	}
	if x.Kind == 3 || x.Kind == 6 {
		x.From = i.Router
	}
	x.Nonce = m.next(x.From)
	if r.Intn(3) == 0 {
		x.Nonce = max(0, m.state.Nonces[x.From]+r.Intn(5)-1)
	}
	if r.Intn(30) == 0 {
		x.Var.Expiry = -1
	}
	return x
}

// anyCall tells both one thing, and tells it, if they answer otherwise.
func anyCall(t *testing.T, r *rand.Rand, c *Chain, m *model, seen map[string]int) {
	t.Helper()
	i := numbers()[r.Intn(len(numbers()))]
	if r.Intn(2) == 0 {
		i = r.Intn(200) - 100
	}
	switch n := r.Intn(20); {
	case n < 9:
		x := anyTx(r, m)
		if r.Intn(12) == 0 && len(m.pool) > 0 {
			x = m.pool[r.Intn(len(m.pool))]
		}
		got, want := c.Submit(x), m.submit(x)
		seen[fmt.Sprint("submit ", want)]++
		if got != want {
			t.Fatalf("Submit(%#v) = %t", x, got)
		}
	case n < 18:
		many := len(m.events)
		got, want := c.Include(i), m.include(i)
		seen[fmt.Sprint("include ", want)]++
		if got != want {
			t.Fatalf("Include(%d) = %t", i, got)
		}
		if want {
			seen[fmt.Sprint("kind ", m.events[many].Tx.Kind, " ", m.events[many].Code == api.OK)]++
		}
	default:
		ticks := r.Intn(4) - 1
		c.Rise(ticks)
		m.state = escrow.Rise(m.state, ticks)
	}
}

// P13.1, P13.2: whatever it is told, all is as the second writing says, and what stood in events stays.
func TestAtRandom(t *testing.T) {
	r := rand.New(rand.NewSource(13))
	seen := map[string]int{}
	var keys []string
	for n := range 12 {
		keys = append(keys, deal.Key(trade(n%2, 2+n/2%2, string('a'+rune(n/4)))))
	}
	for run := range 40 {
		c, m := begin(run%2, r.Intn(50))
		var stood []api.Event
		for step := range 150 {
			anyCall(t, r, c, m, seen)
			is(t, "at random", c, m)
			now := c.Events(0)
			if len(now) < len(stood) || len(now) > len(stood)+1 || !slices.Equal(now[:len(stood)], stood) {
				t.Fatalf("what stood in events is another: %#v, then %#v", stood, now)
			}
			stood = now
			if step%10 == 0 {
				waitsAlike(t, "at random", c, m, keys)
			}
		}
	}
	for _, what := range []string{"submit true", "submit false", "include true", "include false"} {
		if seen[what] < 50 {
			t.Errorf("%s: %d times", what, seen[what])
		}
	}
	for kind := 1; kind <= 6; kind++ {
		for _, done := range []bool{true, false} {
			if what := fmt.Sprint("kind ", kind, " ", done); seen[what] == 0 {
				t.Errorf("%s: never", what)
			}
		}
	}
}

// P13.2: what stands in events stays, when what was included reverts, waits again, or is not taken, or time goes on.
func TestEventsStay(t *testing.T) {
	c := New(0, 1000)
	var stood []api.Event
	for n := range 300 {
		from := n % 8
		x := pay(from, c.Next(from), uint64(1+n%1200))
		if !c.Submit(x) || !c.Include(-1) {
			t.Fatalf("%d is not taken", n)
		}
		if n%10 == 0 {
			c.Submit(x)
		}
		c.Submit(pay(from, 1<<30, 1))
		c.Include(n)
		c.Include(-n)
		c.Rise(n % 2)
		now := c.Events(0)
		if len(now) != n+1 || !slices.Equal(now[:n], stood) || now[n].Tx != x {
			t.Fatalf("behind %d: %d events", n, len(now))
		}
		stood = now
	}
	if len(c.Pool()) != 38 {
		t.Errorf("%d wait", len(c.Pool()))
	}
}

// full is a ledger with locks, events, and some that wait.
func full() *Chain {
	c := New(0, 1000)
	for n := range 5 {
		c.Submit(act(0, n, 4, trade(0, 2, fmt.Sprint(n))))
		c.Include(0)
	}
	for n := range 5 {
		c.Submit(pay(n, n+1, 1))
	}
	return c
}

// told is all that a ledger tells.
type told struct {
	state  escrow.State
	time   int
	pool   []api.Tx
	events []api.Event
	later  []api.Event
}

// tell is all that the ledger tells, in memory of the test's own.
func tell(c *Chain) told {
	return told{withLocks(c.State()), c.Time(), slices.Clone(c.Pool()), slices.Clone(c.Events(0)), slices.Clone(c.Events(2))}
}

// spoil writes over all of a list, as far as it has room.
func spoil[T any](l []T, with T) {
	all := l[:cap(l)]
	for place := range all {
		all[place] = with
	}
}

// spoilAll writes over all that a ledger's answers have room for.
func spoilAll(c *Chain) {
	spoil(c.State().Locks, escrow.Lock{Key: "spoilt", Digest: "spoilt", Status: 7})
	spoil(c.Pool(), api.Tx{Kind: 9, Sig: "spoilt"})
	for from := -1; from <= 6; from++ {
		spoil(c.Events(from), api.Event{Code: 77})
	}
}

// P13.3: answers are new memory: they share none with the ledger, nor with each other.
func TestMemory(t *testing.T) {
	c := full()
	want := tell(c)
	if len(want.state.Locks) != 5 || len(want.pool) != 5 || len(want.events) != 5 {
		t.Fatalf("%#v", want)
	}
	spoilAll(c)
	if got := tell(c); !reflect.DeepEqual(got, want) {
		t.Fatalf("what was written over is another in the ledger: %#v", got)
	}
	state, pool, events := c.State(), c.Pool(), c.Events(0)
	spoilAll(c)
	if !slices.Equal(state.Locks, want.state.Locks) || !slices.Equal(pool, want.pool) || !slices.Equal(events, want.events) {
		t.Error("two answers share memory")
	}
	for _, i := range []int{1, 0, 3} {
		c.Include(i)
		spoilAll(c)
	}
	c.Submit(pay(6, 0, 1))
	c.Submit(act(0, 5, 6, trade(0, 2, "3")))
	spoilAll(c)
	for i := range 9 {
		c.Include(i)
		c.Rise(1)
	}
	if !slices.Equal(state.Locks, want.state.Locks) || !slices.Equal(pool, want.pool) || !slices.Equal(events, want.events) {
		t.Error("what the ledger was told changed an answer")
	}
	if !slices.Equal(c.Events(0)[:5], want.events) {
		t.Error("what stood in events is another")
	}
}

// P13.3: what an answer is appended to does not reach the ledger, nor what it is told later the answer.
func TestMemoryAppended(t *testing.T) {
	c := full()
	pool, events, locks := c.Pool(), c.Events(0), c.State().Locks
	before := tell(c)
	pool = append(pool, api.Tx{Sig: "mine"})
	events = append(events, api.Event{Code: 77})
	locks = append(locks, escrow.Lock{Key: "mine"})
	if got := tell(c); !reflect.DeepEqual(got, before) {
		t.Errorf("%#v", got)
	}
	c.Submit(pay(0, 5, 1))
	c.Include(-1)
	if pool[5].Sig != "mine" || events[5].Code != 77 || locks[5].Key != "mine" {
		t.Error("the ledger wrote over what was appended")
	}
}

// P3, P13.3: ledgers know nothing of each other, whatever is told in between.
func TestTwoLedgers(t *testing.T) {
	alone := New(0, 7)
	a, b := New(0, 7), New(0, 7)
	r := rand.New(rand.NewSource(14))
	for n := range 200 {
		x := pay(n%8, n/10, uint64(1+n%5))
		alone.Submit(x)
		alone.Include(n)
		a.Submit(x)
		b.Submit(pay(r.Intn(8), r.Intn(4), 3))
		b.Rise(r.Intn(3))
		a.Include(n)
		b.Include(r.Int())
		spoilAll(b)
	}
	if got, want := tell(a), tell(alone); !reflect.DeepEqual(got, want) {
		t.Errorf("%#v; want %#v", got, want)
	}
	if len(alone.Events(0)) < 20 || len(alone.Pool()) < 20 {
		t.Error("too little happened")
	}
}

// P13.3: a ledger that was copied as a value keeps its own, whoever is told something first.
func TestCopiedAsValue(t *testing.T) {
	more := func(c *Chain, n uint64) {
		for place := range c.Pool() {
			c.Include(place)
		}
		c.Submit(act(0, c.Next(0), 6, trade(0, 2, "1")))
		c.Submit(pay(1, c.Next(1), n))
		c.Submit(pay(2, c.Next(2), n))
		for range 6 {
			c.Include(int(n))
		}
		c.Rise(int(n))
	}
	c := full()
	before := tell(c)
	first := *c
	more(c, 3)
	if got := tell(&first); !reflect.DeepEqual(got, before) {
		t.Fatalf("the copy is another: %#v", got)
	}
	behind := tell(c)
	more(&first, 4)
	if got := tell(c); !reflect.DeepEqual(got, behind) {
		t.Fatalf("the first is another: %#v", got)
	}
	second := first
	other := tell(&first)
	more(&second, 5)
	if got := tell(&first); !reflect.DeepEqual(got, other) {
		t.Fatalf("the copy is another: %#v", got)
	}
}

// P1: no call panics, whatever it is given.
func TestOdd(t *testing.T) {
	c, m := begin(0, 1000)
	for _, n := range numbers() {
		for name, x := range refused() {
			x.Nonce, x.From, x.Inv.To = n, n, n
			if got, want := c.Submit(x), m.submit(x); got != want {
				t.Errorf("%s, %d: %t", name, n, got)
			}
		}
		if got, want := c.Include(n), m.include(n); got != want {
			t.Errorf("Include(%d) = %t", n, got)
		}
		c.Waits(n, string(make([]byte, 5000)), n)
	}
	is(t, "odd", c, m)
	for _, n := range numbers() {
		c.Rise(n)
	}
	if c.Time() != 1<<40 {
		t.Errorf("Time() = %d", c.Time())
	}
}

// P13.1: till no account has a coin: as many are taken as there are coins.
func TestAllCoins(t *testing.T) {
	c := New(1, 0)
	for account := range 8 {
		for nonce := range 1003 {
			if taken := c.Submit(pay(account, nonce, 1)) && c.Include(-1); taken != (nonce < 1000) {
				t.Fatalf("account %d, %d: %t", account, nonce, taken)
			}
		}
	}
	if s := c.State(); s.Burnt != wide.Of(8000) || len(c.Events(0)) != 8000 || len(c.Events(7990)) != 10 || len(c.Pool()) != 24 {
		t.Errorf("%d events, %d wait, %v is burnt", len(c.Events(0)), len(c.Pool()), s.Burnt)
	}
}
