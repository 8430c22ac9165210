package party

import (
	"slices"

	"narrows/api"
	"narrows/chain"
	"narrows/deal"
	"narrows/escrow"
	"narrows/wide"
)

// The sides.
const (
	Sending = iota
	Receiving
	sides
)

// The kinds of transactions that are of a transfer; behind the first they stand as the acts do.
const (
	Prepare = iota + 4
	Fulfil
	cancel
)

// The kinds of messages.
const (
	Ask = iota + 1
	Bid
	Release
)

// What became of a transfer on a side.
const (
	Nothing = iota
	Prepared
	Fulfilled
)

const (
	// mostSent is how often a transfer is sent at most from a start on.
	mostSent = 2

	coinAsset = 0

	// fewCoins is what a party has at least when it binds itself: what it sends then costs coins.
	fewCoins = 4
)

// View is what a party sees of a side, and the Nonce for what it sends there next.
type View struct {
	*chain.Chain
	State escrow.State
	party int
	next  int
}

// Sight is a party's look at both sides: what it sees, the records of what comes of it, and what goes out when these are sure.
type Sight struct {
	Views    [sides]View
	Records  [][]byte
	Messages []api.Message
	Sends    []api.Send
}

// See is what that party sees of both sides as they are now.
func See(party int, s *chain.Chain, r *chain.Chain) Sight {
	return Sight{Views: [sides]View{Watch(party, s), Watch(party, r)}}
}

// Watch is what that party sees of a side as it is now.
func Watch(party int, c *chain.Chain) View {
	return View{Chain: c, State: c.State(), party: party, next: c.Next(party)}
}

// Is tells whether that became of a transfer.
func (v *View) Is(key string, status int) bool {
	return escrow.Status(v.State, key) == status
}

// Rich tells whether the party has coins enough to bind itself.
func (v *View) Rich() bool {
	return wide.Cmp(v.State.Purse.Of(v.party, coinAsset), wide.Of(fewCoins)) >= 0
}

// nonce is the Nonce for a transaction of the party's, behind those that wait, and those that are sent ahead of it in this look.
func (v *View) nonce() int {
	nonce := v.next
	v.next++
	for slices.ContainsFunc(v.Pool(), func(t api.Tx) bool { return t.From == v.party && t.Nonce == v.next }) {
		v.next++
	}
	return nonce
}

// Own is a transaction as the party sends it there, and true; nothing and false, if one of that transfer and kind of the party's waits there.
func (v *View) Own(t api.Tx) (api.Tx, bool) {
	if v.Waits(v.party, deal.Key(t.Inv), t.Kind) {
		return api.Tx{}, false
	}
	t.From, t.Nonce = v.party, v.nonce()
	return t, true
}

// Send sends a transaction of the party's to a side, and tells whether it did: not if one of that transfer and kind waits there.
func (s *Sight) Send(side int, t api.Tx) bool {
	own, ok := s.Views[side].Own(t)
	if ok {
		s.Sends = append(s.Sends, api.Send{Side: side, Tx: own})
	}
	return ok
}

// Lock sends a transfer of which nothing is on a side there, till it is past there, or was sent twice; and is how often it was sent, this time too.
func (s *Sight) Lock(side int, i api.Inv, v api.Var, sent int) int {
	there := &s.Views[side]
	if !there.Is(deal.Key(i), Nothing) || there.Time() >= v.Expiry || sent >= mostSent {
		return sent
	}
	if s.Send(side, api.Tx{Kind: Prepare, Inv: i, Var: v}) {
		sent++
	}
	return sent
}

// TakeBack cancels a transfer on a side where it is prepared, and past.
func (s *Sight) TakeBack(side int, i api.Inv, v api.Var) {
	there := &s.Views[side]
	if there.Is(deal.Key(i), Prepared) && there.Time() >= v.Expiry {
		s.Send(side, api.Tx{Kind: cancel, Inv: i, Var: v})
	}
}
