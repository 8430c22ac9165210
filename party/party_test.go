package party

import (
	"fmt"
	"math"
	"slices"
	"testing"

	"narrows/api"
	"narrows/chain"
	"narrows/wide"
)

// texts is records as texts.
func texts(l [][]byte) []string {
	var all []string
	for _, b := range l {
		all = append(all, string(b))
	}
	return all
}

// records is texts as records.
func records(l ...string) [][]byte {
	var all [][]byte
	for _, s := range l {
		all = append(all, []byte(s))
	}
	return all
}

// A diary that nobody began is of nobody; else its party is up at first.
func TestFault(t *testing.T) {
	var none Diary
	if none.Fault() != api.ErrState || none.Up() != api.ErrState || none.Fault() != api.ErrState {
		t.Error("nobody began it")
	}
	for _, room := range []int{math.MinInt, -1, 0, 9, math.MaxInt} {
		d := Begin(room)
		if d.Fault() != api.OK || d.Up() != api.ErrState || len(d.Records()) != 0 {
			t.Errorf("room %d: fault %d", room, d.Fault())
		}
	}
}

// What is kept lasts; without room for all nothing is kept, and the party is down till it is up.
func TestKeep(t *testing.T) {
	// A record's frame has 6 octets more than it.
	for room := range 30 {
		d := Begin(room)
		first := d.Keep(records("ab"))
		if first != (room >= 8) || first != (d.Fault() == api.OK) {
			t.Fatalf("room %d: %t, fault %d", room, first, d.Fault())
		}
		if !first {
			if d.Fault() != api.ErrDown || d.Up() != api.OK || d.Fault() != api.OK || len(d.Records()) != 0 {
				t.Errorf("room %d: fault %d", room, d.Fault())
			}
			continue
		}
		want := []string{"ab"}
		second := d.Keep(records("c", "de"))
		if second != (room >= 23) {
			t.Fatalf("room %d: %t", room, second)
		}
		if second {
			want = append(want, "c", "de")
		}
		if got := texts(d.Records()); !slices.Equal(got, want) {
			t.Errorf("room %d: %q", room, got)
		}
		d.Up()
		d.Fall(nil, 0)
		if got := texts(d.Records()); !slices.Equal(got, want) || d.Fault() != api.ErrDown {
			t.Errorf("room %d: what was kept is gone: %q", room, got)
		}
		d.Up()
		if !d.Keep(nil) {
			t.Errorf("room %d: nothing always has room", room)
		}
	}
}

// Of what is kept as the power goes a beginning lasts.
func TestFall(t *testing.T) {
	for keep := -2; keep < 30; keep++ {
		d := Begin(99)
		d.Keep(records("sure"))
		d.Fall(records("a", "bc"), keep)
		want := []string{"sure"}
		if keep >= 7 {
			want = append(want, "a")
		}
		if keep >= 15 {
			want = append(want, "bc")
		}
		if got := texts(d.Records()); !slices.Equal(got, want) || d.Fault() != api.ErrDown {
			t.Errorf("keep %d: %q, want %q", keep, got, want)
		}
		if d.Up() != api.OK || !d.Keep(records("more")) || !slices.Equal(texts(d.Records()), append(want, "more")) {
			t.Errorf("keep %d: it goes on with %q", keep, texts(d.Records()))
		}
	}
	d := Begin(14)
	d.Fall(records("a", "bc"), 99)
	if got := texts(d.Records()); len(got) != 0 {
		t.Errorf("without room for all: %q", got)
	}
}

// trade is a transfer that may be.
func trade(id string) api.Inv {
	return api.Inv{User: 0, Root: "01234567", Router: 2, Send: 0, Recv: 1, To: 5, Id: id}
}

// A party sees what became of a transfer, and its coins, on each side.
func TestView(t *testing.T) {
	s, r := chain.New(0, 1000), chain.New(1, 2000)
	for side, c := range []*chain.Chain{s, r} {
		for coins := uint64(0); coins < 7; coins++ {
			have, _ := wide.Small(c.State().Purse.Of(0, 0))
			c.Submit(api.Tx{From: 0, Nonce: c.Next(0), Kind: 1, Amount: wide.Of(have - coins - 1), Inv: api.Inv{To: 7}})
			c.Include(0)
			if have, _ := wide.Small(c.State().Purse.Of(0, 0)); have != coins {
				t.Fatalf("%d coins, not %d", have, coins)
			}
			l := See(0, s, r)
			if l.Views[side].Rich() != (coins >= 4) {
				t.Errorf("side %d: %d coins", side, coins)
			}
			c.Submit(api.Tx{From: 7, Nonce: c.Next(7), Kind: 1, Amount: wide.Of(50), Inv: api.Inv{To: 0}})
			c.Include(0)
		}
	}
	l := See(7, s, r)
	if l.Views[Sending].Time() != 1000 || l.Views[Receiving].Time() != 2000 || !l.Views[Sending].Is("key", Nothing) || l.Views[Receiving].Is("key", Prepared) {
		t.Error("it sees the sides otherwise")
	}
}

// What is sent is the party's, with Nonces behind those that wait; what waits is not sent again.
func TestSend(t *testing.T) {
	s, r := chain.New(0, 1000), chain.New(1, 1000)
	for _, nonce := range []int{0, 2, 3, 5} {
		r.Submit(api.Tx{From: 2, Nonce: nonce, Kind: 1, Amount: wide.Of(1)})
	}
	r.Submit(api.Tx{From: 3, Nonce: 1, Kind: 1, Amount: wide.Of(1)})
	v := api.Var{Amount: wide.Of(9), Expiry: 1010}
	r.Submit(api.Tx{From: 2, Nonce: 9, Kind: Prepare, Inv: trade("waits"), Var: v})
	l := See(2, s, r)
	want := ""
	for place, id := range []string{"a", "b", "c", "d"} {
		if l.Send(Receiving, api.Tx{From: 7, Nonce: 77, Kind: Prepare, Inv: trade("waits"), Var: v}) {
			t.Fatal("it waits there")
		}
		if !l.Send(Receiving, api.Tx{From: 7, Nonce: 77, Kind: Fulfil, Inv: trade(id), Var: v}) || !l.Send(Sending, api.Tx{Kind: Prepare, Inv: trade("waits"), Var: v}) {
			t.Fatal("none waits there")
		}
		want += fmt.Sprint("1:", []int{1, 4, 6, 7}[place], " 0:", place, " ")
	}
	got := ""
	for _, x := range l.Sends {
		got += fmt.Sprint(x.Side, ":", x.Tx.Nonce, " ")
		if x.Tx.From != 2 || x.Tx.Var != v {
			t.Errorf("%#v", x)
		}
	}
	if got != want {
		t.Errorf("Nonces %s, want %s", got, want)
	}
}

// A party that watches one side sends as one that sees both: nothing beside a false, and Nonces that go on.
func TestOwn(t *testing.T) {
	c := chain.New(1, 1000)
	want := api.Tx{From: 4, Kind: Fulfil, Inv: trade("a"), Var: api.Var{Amount: wide.Of(9), Expiry: 1010}, Fee: wide.Of(1), Sig: "sig"}
	v := Watch(4, c)
	if v.Time() != 1000 || v.State.Side != Receiving || v.Rich() != true {
		t.Error("it sees the side otherwise")
	}
	for nonce := range 3 {
		other := want
		other.From, other.Nonce = 2, 77
		got, ok := v.Own(other)
		if want.Nonce = nonce; !ok || got != want {
			t.Errorf("Own() = %#v, %t", got, ok)
		}
	}
	c.Submit(want)
	if got, ok := v.Own(want); ok || got != (api.Tx{}) {
		t.Errorf("it waits: %#v, %t", got, ok)
	}
	want.Kind = Prepare
	if got, ok := v.Own(want); !ok || got.Nonce != 3 {
		t.Errorf("what did not go has no Nonce: %#v", got)
	}
	none := Watch(4, nil)
	if got, ok := none.Own(want); !ok || got.Nonce != 0 || none.Rich() || none.Is("key", Prepared) {
		t.Errorf("nobody made it: %#v", got)
	}
}

// Lock counts what it sends; TakeBack sends only what is past and prepared.
func TestLock(t *testing.T) {
	s, r := chain.New(0, 1000), chain.New(1, 1000)
	i, v := trade("a"), api.Var{Amount: wide.Of(9), Expiry: 1010}
	for sent, want := range []int{1, 2, 2, 3} {
		l := See(0, s, r)
		if got := l.Lock(Sending, i, v, sent); got != want || len(l.Sends) != want-sent {
			t.Errorf("sent %d times: %d, %#v", sent, got, l.Sends)
		}
	}
	l := See(0, s, r)
	if l.TakeBack(Sending, i, v); l.Lock(Sending, i, api.Var{Amount: wide.Of(9), Expiry: 1000}, 0) != 0 || len(l.Sends) != 0 {
		t.Errorf("it is past, or not there: %#v", l.Sends)
	}
	l.Lock(Sending, i, v, 0)
	s.Submit(l.Sends[0].Tx)
	if l.Lock(Sending, i, v, 0) != 0 {
		t.Error("it waits")
	}
	s.Include(0)
	for rise, want := range []int{0, 0, 1} {
		l = See(0, s, r)
		if l.TakeBack(Sending, i, v); l.Lock(Sending, i, v, 0) != 0 || len(l.Sends) != want {
			t.Errorf("it is prepared, at %d: %#v", s.Time(), l.Sends)
		}
		s.Rise([]int{9, 1, 0}[rise])
	}
	if want := (api.Send{Side: Sending, Tx: api.Tx{From: 0, Nonce: 1, Kind: 6, Inv: i, Var: v}}); l.Sends[0] != want {
		t.Errorf("%#v", l.Sends)
	}
}
