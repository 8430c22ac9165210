package scan

import (
	"crypto/sha256"
	"encoding/binary"
	"fmt"
	"math"
	"math/rand"
	"slices"
	"strings"
	"testing"

	"narrows/api"
	"narrows/chain"
	"narrows/deal"
	"narrows/escrow"
	"narrows/mss"
	"narrows/wide"
)

// keyOf is a transfer's key, written a second time: that of what may not be is the empty text.
func keyOf(i api.Inv) string {
	ranges := [][3]int{{i.User, 0, 1}, {i.Router, 2, 3}, {i.Send, 0, 1}, {i.Recv, 0, 1}, {i.To, 0, 7}, {len(i.Root), 8, 8}, {len(i.Id), 1, 16}}
	for _, r := range ranges {
		if r[0] < r[1] || r[0] > r[2] {
			return ""
		}
	}
	var b []byte
	num := func(n int) { b = append(b, binary.BigEndian.AppendUint64(nil, uint64(n))[2:]...) }
	text := func(s string) { b = append(binary.BigEndian.AppendUint16(b, uint16(len(s))), s...) }
	text("inv")
	num(i.User)
	text(i.Root)
	num(i.Router)
	num(i.Send)
	num(i.Recv)
	num(i.To)
	text(i.Id)
	sum := sha256.Sum256(b)
	return string(sum[:])
}

// told is what a list of events tells.
type told struct {
	done  map[int]map[string]api.Event
	deals []api.Tx
	sent  map[int][]api.Event
	last  int
}

// tell is what a list tells, written a second time: it is gone through from behind, so that the first one is what stays.
func tell(l []api.Event) told {
	w := told{map[int]map[string]api.Event{4: {}, 5: {}, 6: {}}, nil, map[int][]api.Event{}, -1}
	for place := range l {
		e := l[len(l)-1-place]
		w.sent[e.Tx.From] = append([]api.Event{e}, w.sent[e.Tx.From]...)
		if e.Time > w.last {
			w.last = e.Time
		}
		if e.Code != 0 {
			continue
		}
		if e.Tx.Kind == 4 {
			w.deals = append([]api.Tx{e.Tx}, w.deals...)
		}
		if w.done[e.Tx.Kind] != nil && keyOf(e.Tx.Inv) != "" {
			w.done[e.Tx.Kind][keyOf(e.Tx.Inv)] = e
		}
	}
	return w
}

// numbers are numbers of any size.
func numbers() []int {
	return []int{math.MinInt, math.MinInt + 1, -1 << 40, -1 << 32, -1<<32 + 4, -256, -9, -8, -7, -6, -5, -4, -3, -2, -1,
		0, 1, 2, 3, 4, 5, 6, 7, 8, 9, 10, 16, 32, 255, 256, 260, 261, 262, 1 << 32, 1<<32 + 4, 1<<32 + 5, 1<<32 + 6, 1<<40 - 1, 1 << 40, 1<<40 + 1, math.MaxInt - 1, math.MaxInt}
}

// oddKeys are keys of nobody's.
func oddKeys() []string {
	return []string{"", "key", "\x00", strings.Repeat("\x00", 32), strings.Repeat("\xff", 32), strings.Repeat("k", 5000)}
}

// alike tells it, if what the calls tell of a list is not what the second writing does, by its own keys and these.
func alike(t *testing.T, what string, l []api.Event, keys ...string) {
	t.Helper()
	w := tell(l)
	for _, e := range l {
		keys = append(keys, keyOf(e.Tx.Inv))
	}
	for _, key := range append(keys, oddKeys()...) {
		byKind(t, what, l, w, key)
	}
	if got := Deals(l); !slices.Equal(got, w.deals) {
		t.Fatalf("%s: Deals =\n%#v; want\n%#v", what, got, w.deals)
	}
	for _, account := range numbers() {
		if got := Of(l, account); !slices.Equal(got, w.sent[account]) {
			t.Fatalf("%s: Of(%d) =\n%#v; want\n%#v", what, account, got, w.sent[account])
		}
	}
	if got := Last(l); got != w.last {
		t.Fatalf("%s: Last = %d, want %d", what, got, w.last)
	}
}

// byKind tells it, if of that key something else is told than the second writing does.
func byKind(t *testing.T, what string, l []api.Event, w told, key string) {
	t.Helper()
	want, there := w.done[4][key]
	if got, ok := Prepared(l, key); got != want.Tx || ok != there {
		t.Fatalf("%s: Prepared(%x) =\n%#v, %t; want\n%#v, %t", what, key, got, ok, want.Tx, there)
	}
	want, there = w.done[5][key]
	if got, ok := Fulfilled(l, key); got != want || ok != there {
		t.Fatalf("%s: Fulfilled(%x) =\n%#v, %t; want\n%#v, %t", what, key, got, ok, want, there)
	}
	want, there = w.done[6][key]
	if got, ok := Cancelled(l, key); got != want || ok != there {
		t.Fatalf("%s: Cancelled(%x) =\n%#v, %t; want\n%#v, %t", what, key, got, ok, want, there)
	}
}

// trade is a transfer that may be.
func trade(id string) api.Inv {
	return api.Inv{User: 1, Root: "rootroot", Router: 3, Send: 0, Recv: 1, To: 5, Id: id}
}

// event is what came of a transaction of that kind, of that transfer; n makes it another one in all fields that are not looked for.
func event(kind int, i api.Inv, code api.Errno, n int) api.Event {
	x := api.Tx{From: n % 8, Nonce: n, Kind: kind, Asset: n % 2, Amount: wide.Of(uint64(n)), Inv: i}
	x.Var = api.Var{Amount: wide.Of(uint64(n) + 100), Expiry: 1000 + n}
	x.Fee, x.Sig = wide.Of(uint64(n)+1), fmt.Sprint("sig ", n)
	return api.Event{Time: 900 + n, Code: code, Tx: x}
}

// codes are all errors, and numbers that no error has.
func codes() []api.Errno {
	l := []api.Errno{api.ErrCount, api.ErrRange, api.ErrLong, api.ErrState, api.ErrFull, api.ErrKind, api.ErrNone, api.ErrSyntax, api.ErrDown, api.ErrNonce, api.ErrFee,
		api.ErrFunds, api.ErrVault, api.ErrStatus, api.ErrDigest, api.ErrExpiry, api.ErrSig, api.ErrAmount, api.ErrSender, api.ErrOverflow, api.ErrRoute}
	for _, n := range numbers() {
		if n != 0 {
			l = append(l, api.Errno(n))
		}
	}
	return l
}

// P14.1, the chapter's example: of nothing nothing is told.
func TestExamples(t *testing.T) {
	for name, l := range map[string][]api.Event{"nil": nil, "empty": {}} {
		for _, key := range append(oddKeys(), keyOf(trade("a"))) {
			if x, ok := Prepared(l, key); ok || x != (api.Tx{}) {
				t.Errorf("%s: Prepared(%x) = %#v, %t", name, key, x, ok)
			}
			if e, ok := Fulfilled(l, key); ok || e != (api.Event{}) {
				t.Errorf("%s: Fulfilled(%x) = %#v, %t", name, key, e, ok)
			}
			if e, ok := Cancelled(l, key); ok || e != (api.Event{}) {
				t.Errorf("%s: Cancelled(%x) = %#v, %t", name, key, e, ok)
			}
		}
		for _, account := range numbers() {
			if got := Of(l, account); len(got) != 0 {
				t.Errorf("%s: Of(%d) = %#v", name, account, got)
			}
		}
		if len(Deals(l)) != 0 || Last(l) != -1 {
			t.Errorf("%s: Deals = %#v, Last = %d", name, Deals(l), Last(l))
		}
		alike(t, name, l)
	}
}

// The key by which the tests look is that of layer 7.
func TestKeyOf(t *testing.T) {
	for _, i := range append(wrong(), trade("a"), trade("sixteen octets i"), api.Inv{Root: "\x00\x01\x02\x03\x04\x05\x06\xff", Router: 2, Id: "\x00"}) {
		if got, want := keyOf(i), deal.Key(i); got != want {
			t.Errorf("keyOf(%#v) = %x, want %x", i, got, want)
		}
	}
}

// P14.1: each kind is told by its own call, and by no other.
func TestKinds(t *testing.T) {
	key := keyOf(trade("a"))
	for _, kind := range numbers() {
		e := event(kind, trade("a"), api.OK, 7)
		l := []api.Event{e}
		x, prepared := Prepared(l, key)
		f, fulfilled := Fulfilled(l, key)
		c, cancelled := Cancelled(l, key)
		if prepared != (kind == 4) || fulfilled != (kind == 5) || cancelled != (kind == 6) || (len(Deals(l)) == 1) != (kind == 4) {
			t.Errorf("kind %d: %t, %t, %t, %d", kind, prepared, fulfilled, cancelled, len(Deals(l)))
		}
		if prepared && x != e.Tx || fulfilled && f != e || cancelled && c != e {
			t.Errorf("kind %d: another one is told", kind)
		}
		alike(t, fmt.Sprint("kind ", kind), l)
	}
}

// P14.1: what reverted does not count, but to Of and Last.
func TestCodes(t *testing.T) {
	key := keyOf(trade("a"))
	for _, code := range codes() {
		for kind := 4; kind <= 6; kind++ {
			e := event(kind, trade("a"), code, 3)
			l := []api.Event{e}
			_, prepared := Prepared(l, key)
			_, fulfilled := Fulfilled(l, key)
			_, cancelled := Cancelled(l, key)
			if prepared || fulfilled || cancelled || len(Deals(l)) != 0 {
				t.Errorf("code %d, kind %d: it counts", code, kind)
			}
			if got := Of(l, 3); len(got) != 1 || got[0] != e || Last(l) != 903 {
				t.Errorf("code %d, kind %d: Of = %#v, Last = %d", code, kind, got, Last(l))
			}
			alike(t, fmt.Sprint("code ", code), l)
			// Ahead of one that did not revert, and behind it.
			whole := event(kind, trade("a"), api.OK, 4)
			alike(t, fmt.Sprint("behind code ", code), []api.Event{e, whole})
			alike(t, fmt.Sprint("ahead of code ", code), []api.Event{whole, e})
		}
	}
}

// P14.1: of several the first is told, whatever its time, its sender, its Nonce and all else.
func TestFirst(t *testing.T) {
	key := keyOf(trade("a"))
	for kind := 4; kind <= 6; kind++ {
		for _, order := range [][]int{{1, 2, 3}, {3, 2, 1}, {2, 3, 1}, {2, 2, 1}} {
			var l []api.Event
			for place, n := range order {
				l = append(l, event(kind, trade("other"), api.OK, 10+place), event(4+(kind-3)%3, trade("a"), api.OK, 20+place),
					event(kind, trade("a"), api.ErrStatus, 30+place), event(kind, trade("a"), api.OK, n))
			}
			want := l[3]
			x, ok := Prepared(l, key)
			if kind == 4 && (!ok || x != want.Tx) {
				t.Errorf("Prepared of %v: %#v, %t", order, x, ok)
			}
			f, ok := Fulfilled(l, key)
			if kind == 5 && (!ok || f != want) {
				t.Errorf("Fulfilled of %v: %#v, %t", order, f, ok)
			}
			c, ok := Cancelled(l, key)
			if kind == 6 && (!ok || c != want) {
				t.Errorf("Cancelled of %v: %#v, %t", order, c, ok)
			}
			alike(t, fmt.Sprint(order), l)
			for n := range l {
				alike(t, fmt.Sprint(order, " from ", n), l[n:])
				alike(t, fmt.Sprint(order, " to ", n), l[:n])
			}
		}
	}
}

// unlike are transfers that may be, each unlike trade("a") in one field.
func unlike() []api.Inv {
	var l []api.Inv
	for _, set := range []func(*api.Inv){
		func(i *api.Inv) { i.User = 0 }, func(i *api.Inv) { i.Root = "roosroot" }, func(i *api.Inv) { i.Router = 2 },
		func(i *api.Inv) { i.Send = 1 }, func(i *api.Inv) { i.Recv = 0 }, func(i *api.Inv) { i.To = 4 },
		func(i *api.Inv) { i.Id = "b" }, func(i *api.Inv) { i.Id = "a\x00" },
	} {
		i := trade("a")
		set(&i)
		l = append(l, i)
	}
	return l
}

// wrong are transfers that may not be, each wrong in one field.
func wrong() []api.Inv {
	l := []api.Inv{{}}
	for _, set := range []func(*api.Inv){
		func(i *api.Inv) { i.User = 2 }, func(i *api.Inv) { i.User = -1 }, func(i *api.Inv) { i.Root = "" }, func(i *api.Inv) { i.Root = "rootroots" },
		func(i *api.Inv) { i.Router = 1 }, func(i *api.Inv) { i.Router = 4 }, func(i *api.Inv) { i.Send = 2 }, func(i *api.Inv) { i.Send = -1 },
		func(i *api.Inv) { i.Recv = 2 }, func(i *api.Inv) { i.Recv = math.MinInt }, func(i *api.Inv) { i.To = 8 }, func(i *api.Inv) { i.To = math.MaxInt },
		func(i *api.Inv) { i.Id = "" }, func(i *api.Inv) { i.Id = "seventeen octets." }, func(i *api.Inv) { i.Root, i.Id = strings.Repeat("r", 5000), strings.Repeat("i", 70000) },
	} {
		i := trade("a")
		set(&i)
		l = append(l, i)
	}
	return l
}

// P14.1: a transfer is known by its key, in all of its fields.
func TestTransfers(t *testing.T) {
	whole := keyOf(trade("a"))
	for kind := 4; kind <= 6; kind++ {
		var l []api.Event
		for n, i := range unlike() {
			l = append(l, event(kind, i, api.OK, n))
			alike(t, "unlike", l, whole)
		}
		_, prepared := Prepared(l, whole)
		_, fulfilled := Fulfilled(l, whole)
		_, cancelled := Cancelled(l, whole)
		if prepared || fulfilled || cancelled {
			t.Errorf("kind %d: another transfer is told", kind)
		}
		l = append(l, event(kind, trade("a"), api.OK, 77))
		alike(t, "behind those that are unlike", l, whole)
	}
}

// P14.1: a key is all of its octets: no more, no less, no other.
func TestKeys(t *testing.T) {
	key := keyOf(trade("a"))
	var l []api.Event
	for kind := 4; kind <= 6; kind++ {
		l = append(l, event(kind, trade("a"), api.OK, kind))
	}
	keys := []string{key + "\x00", key + key, "\x00" + key, strings.ToUpper(key), fmt.Sprintf("%x", key), trade("a").Id, trade("a").Root}
	for place := range key {
		other := []byte(key)
		other[place] ^= 1 << (place % 8)
		keys = append(keys, string(other), key[:place], key[place+1:])
	}
	for _, other := range keys {
		_, prepared := Prepared(l, other)
		_, fulfilled := Fulfilled(l, other)
		_, cancelled := Cancelled(l, other)
		if prepared || fulfilled || cancelled {
			t.Errorf("%x is told for %x", key, other)
		}
	}
	alike(t, "keys", l, keys...)
}

// P14.1: of the empty key nothing is told, though transfers that may not be have it; Deals, Of and Last tell of these, too.
func TestEmptyKey(t *testing.T) {
	for kind := 4; kind <= 6; kind++ {
		var l []api.Event
		for n, i := range wrong() {
			e := event(kind, i, api.OK, n)
			if keyOf(i) != "" || deal.Key(i) != "" {
				t.Fatalf("%#v has a key", i)
			}
			alike(t, "alone", []api.Event{e}, keyOf(trade("a")))
			l = append(l, e)
		}
		x, prepared := Prepared(l, "")
		f, fulfilled := Fulfilled(l, "")
		c, cancelled := Cancelled(l, "")
		if prepared || fulfilled || cancelled || x != (api.Tx{}) || f != (api.Event{}) || c != (api.Event{}) {
			t.Errorf("kind %d: of the empty key something is told", kind)
		}
		if got := Deals(l); kind == 4 && len(got) != len(l) {
			t.Errorf("Deals: %d of %d", len(got), len(l))
		}
		alike(t, "all", append(l, event(kind, trade("a"), api.OK, 3)))
	}
}

// P14.1, Deals: all of kind 4 that did not revert, in order, each as often as it is there, as it stands.
func TestDeals(t *testing.T) {
	var l []api.Event
	var want []api.Tx
	for n := range 60 {
		e := event(n%9, trade(fmt.Sprint("id ", n%5)), []api.Errno{0, 0, 0, 34}[n%4], 60-n)
		l = append(l, e, e)
		if n%9 == 4 && n%4 != 3 {
			want = append(want, e.Tx, e.Tx)
		}
		if got := Deals(l); !slices.Equal(got, want) {
			t.Fatalf("Deals of %d:\n%#v; want\n%#v", len(l), got, want)
		}
	}
	if len(want) < 8 {
		t.Error("too few are told")
	}
	alike(t, "deals", l)
}

// P14.1, Of: those that it sent, whatever came of them, in order; not those of which it is a party else.
func TestOf(t *testing.T) {
	for _, account := range numbers() {
		var l, want []api.Event
		for n, from := range numbers() {
			e := event(n%7, api.Inv{User: account, Router: account, To: account}, []api.Errno{0, 30}[n%2], n)
			e.Tx.From = from
			l = append(l, e)
			if from == account {
				want = append(want, e)
			}
			mine := event(6-n%7, trade("a"), []api.Errno{31, 0, 0}[n%3], 100-n)
			mine.Tx.From = account
			l, want = append(l, mine), append(want, mine)
		}
		if got := Of(l, account); !slices.Equal(got, want) {
			t.Errorf("Of(%d) =\n%#v; want\n%#v", account, got, want)
		}
		alike(t, fmt.Sprint("of ", account), l)
	}
}

// P14.1, Last: the greatest time, wherever it stands, whatever came of it; never less than -1.
func TestLast(t *testing.T) {
	for _, a := range numbers() {
		if got, want := Last([]api.Event{{Time: a}}), max(a, -1); got != want {
			t.Errorf("Last of %d = %d, want %d", a, got, want)
		}
		for _, b := range numbers() {
			for _, c := range []int{math.MinInt, -2, 5, math.MaxInt} {
				l := []api.Event{{Time: a, Code: api.ErrFee}, {Time: b, Tx: api.Tx{Kind: 9, From: -1}}, {Time: c, Code: -1}}
				if got, want := Last(l), max(a, b, c, -1); got != want {
					t.Errorf("Last of %d, %d, %d = %d, want %d", a, b, c, got, want)
				}
			}
		}
	}
}

// signed is a transaction of kind 5 or 6, signed by the user's key of that seed.
func signed(from int, nonce int, kind int, i api.Inv, seed string) api.Tx {
	x := api.Tx{From: from, Nonce: nonce, Kind: kind, Inv: i, Var: api.Var{Amount: wide.Of(100), Expiry: 1010}, Fee: wide.Of(1)}
	x.Sig, _, _ = mss.Sign(api.Key{Seed: seed}, deal.Payload(kind-4, deal.Key(i), x.Fee))
	return x
}

// include submits it and includes it, so that its event stands behind the others.
func include(t *testing.T, c *chain.Chain, x api.Tx) api.Event {
	t.Helper()
	if !c.Submit(x) || !c.Include(-1) {
		t.Fatalf("%#v is not taken", x)
	}
	l := c.Events(0)
	return l[len(l)-1]
}

// P14.1: of a ledger's events that is told which the contract did, as its locks say.
func TestLedger(t *testing.T) {
	c := chain.New(1, 1000)
	root := mss.Root("seed")
	include(t, c, api.Tx{From: 2, Kind: 2, Asset: 1, Amount: wide.Of(400), Inv: api.Inv{Router: 2}})
	want := map[string]int{}
	for n := range 4 {
		i := api.Inv{Root: root, Router: 2, Recv: 1, To: 6, Id: fmt.Sprint(n)}
		key := deal.Key(i)
		// None is prepared yet, so that what comes first reverts.
		include(t, c, signed(n, c.Next(n), 5, i, "seed"))
		prepare := include(t, c, api.Tx{From: 2, Nonce: c.Next(2), Kind: 4, Inv: i, Var: api.Var{Amount: wide.Of(100), Expiry: 1010}})
		include(t, c, api.Tx{From: 2, Nonce: c.Next(2), Kind: 4, Inv: i, Var: api.Var{Amount: wide.Of(99), Expiry: 1011}})
		want[key] = 1
		if x, ok := Prepared(c.Events(0), key); !ok || x != prepare.Tx {
			t.Errorf("%d: Prepared = %#v, %t", n, x, ok)
		}
		c.Rise(1)
		if n%4 == 0 {
			continue
		}
		kind := 5 + n%2
		done := include(t, c, signed(n, c.Next(n), kind, i, "seed"))
		include(t, c, signed(n, c.Next(n), kind, i, "seed"))
		want[key] = kind - 3
		f, fulfilled := Fulfilled(c.Events(0), key)
		x, cancelled := Cancelled(c.Events(0), key)
		if fulfilled != (kind == 5) || cancelled != (kind == 6) || fulfilled && f != done || cancelled && x != done {
			t.Errorf("%d: Fulfilled = %#v, %t; Cancelled = %#v, %t", n, f, fulfilled, x, cancelled)
		}
	}
	l := c.Events(0)
	for key, status := range want {
		if got := escrow.Status(c.State(), key); got != status {
			t.Errorf("Status = %d, want %d", got, status)
		}
	}
	if len(Deals(l)) != 4 || len(Of(l, 2)) != 12 || Last(l) != 1004 {
		t.Errorf("Deals %d, Of %d, Last %d", len(Deals(l)), len(Of(l, 2)), Last(l))
	}
	alike(t, "ledger", l)
}

// anyEvent is an event that often is like others.
func anyEvent(r *rand.Rand) api.Event {
	i := trade(string('a' + rune(r.Intn(3))))
	if r.Intn(8) == 0 {
		i = wrong()[r.Intn(len(wrong()))]
	}
	e := event(r.Intn(9), i, 0, r.Intn(20))
	if r.Intn(2) == 0 {
		e.Tx.Kind = 4 + r.Intn(3)
	}
	if r.Intn(3) == 0 {
		e.Code = codes()[r.Intn(len(codes()))]
	}
	if r.Intn(3) == 0 {
		e.Tx.From = numbers()[r.Intn(len(numbers()))]
	}
	if r.Intn(3) == 0 {
		e.Time = numbers()[r.Intn(len(numbers()))]
	}
	return e
}

// P14.1: at random, lists of any length tell what the second writing does.
func TestAtRandom(t *testing.T) {
	r := rand.New(rand.NewSource(14))
	var there [2]int
	for n := range 300 {
		l := make([]api.Event, r.Intn(30))
		for place := range l {
			l[place] = anyEvent(r)
		}
		alike(t, fmt.Sprint("run ", n), l, keyOf(trade("a")), keyOf(trade("b")), keyOf(trade("c")))
		if _, ok := Cancelled(l, keyOf(trade("a"))); ok {
			there[1]++
		} else {
			there[0]++
		}
	}
	if there[0] < 50 || there[1] < 50 {
		t.Errorf("one is cancelled %d times, and not %d times", there[1], there[0])
	}
}

// mixed is a list of which each call tells something.
func mixed() []api.Event {
	var l []api.Event
	for n := range 24 {
		e := event(4+n%3, trade(fmt.Sprint(n%4)), []api.Errno{0, 0, 0, 0, 32}[n%5], n)
		e.Tx.From = n % 2
		l = append(l, e)
	}
	return l
}

// spoil writes over all of a list, as far as it has room.
func spoil[T any](l []T, with T) {
	for place := range l[:cap(l)] {
		l[:cap(l)][place] = with
	}
}

// P14.2: what is handed in is not changed, as far as it has room, and answers are new memory.
func TestMemory(t *testing.T) {
	spoilt := api.Event{Time: 77, Code: 77, Tx: api.Tx{From: 77, Kind: 77, Sig: "spoilt"}}
	for length := range len(mixed()) + 1 {
		l := mixed()
		short := l[:length]
		want := tell(short)
		deals, first, second := Deals(short), Of(short, 0), Of(short, 1)
		key := keyOf(trade("0"))
		Prepared(short, key)
		Fulfilled(short, key)
		Cancelled(short, key)
		Last(short)
		if !slices.Equal(l, mixed()) {
			t.Fatal("what was handed in is another")
		}
		spoil(Deals(short), spoilt.Tx)
		spoil(Of(short, 0), spoilt)
		spoil(Of(short, 1), spoilt)
		if !slices.Equal(l, mixed()) {
			t.Fatal("an answer shares memory with what was handed in")
		}
		for place := range l {
			l[place] = spoilt
		}
		if !slices.Equal(deals, want.deals) || !slices.Equal(first, want.sent[0]) || !slices.Equal(second, want.sent[1]) {
			t.Fatal("an answer shares memory with what was handed in, or with another one")
		}
		if got := Last(short); length > 0 && got != 77 || len(Deals(short)) != 0 || len(Of(short, 0)) != 0 {
			t.Fatal("what was handed in was kept")
		}
	}
}

// P14.2: also where all of a list is told, the answer is memory of its own.
func TestMemoryOfAll(t *testing.T) {
	var l []api.Event
	for n := range 9 {
		e := event(4, trade("a"), api.OK, n)
		e.Tx.From = 6
		l = append(l, e)
	}
	before := slices.Clone(l)
	deals, sent := Deals(l), Of(l, 6)
	if len(deals) != 9 || !slices.Equal(sent, before) {
		t.Fatalf("%#v, %#v", deals, sent)
	}
	sent = append(sent[:3], sent[4:]...)
	spoil(sent, api.Event{})
	spoil(deals, api.Tx{})
	if !slices.Equal(l, before) {
		t.Error("an answer shares memory with what was handed in")
	}
	alike(t, "all", l)
}

// P1: no call panics, whatever it is given.
func TestOdd(t *testing.T) {
	var l []api.Event
	for n, number := range numbers() {
		e := api.Event{Time: number, Code: api.Errno(n % 2), Tx: api.Tx{From: number, Nonce: number, Kind: 4 + n%3, Asset: number}}
		e.Tx.Inv = api.Inv{User: number, Root: strings.Repeat("\xff", n), Router: number, Send: number, Recv: number, To: number, Id: strings.Repeat("\x00", n)}
		e.Tx.Var = api.Var{Amount: api.Wide{math.MaxUint64, math.MaxUint64, math.MaxUint64, math.MaxUint64}, Expiry: number}
		e.Tx.Amount, e.Tx.Fee, e.Tx.Sig = e.Tx.Var.Amount, e.Tx.Var.Amount, strings.Repeat("s", 100*n)
		l = append(l, e)
	}
	alike(t, "odd", l)
	alike(t, "zero", make([]api.Event, 3))
}

// P3: a long list is told as a short one, as often as one asks.
func TestLong(t *testing.T) {
	var l []api.Event
	for n := range 8000 {
		l = append(l, event(1+n%3, trade("a"), api.OK, n))
	}
	key := keyOf(trade("a"))
	l = append(l, event(4, trade("a"), api.OK, 1), event(5, trade("a"), api.OK, 2), event(6, trade("a"), api.OK, 3))
	for range 3 {
		x, prepared := Prepared(l, key)
		f, fulfilled := Fulfilled(l, key)
		c, cancelled := Cancelled(l, key)
		if !prepared || !fulfilled || !cancelled || x != l[8000].Tx || f != l[8001] || c != l[8002] {
			t.Fatal("they are not told")
		}
		if len(Deals(l)) != 1 || len(Of(l, 3)) != 1001 || Last(l) != 8899 {
			t.Fatalf("Deals %d, Of %d, Last %d", len(Deals(l)), len(Of(l, 3)), Last(l))
		}
	}
}
