package client

import (
	"slices"

	"narrows/api"
	"narrows/chain"
	"narrows/deal"
	"narrows/escrow"
	"narrows/plan"
	"narrows/scan"
	"narrows/wide"
)

// The sides.
const (
	sending = iota
	receiving
	sides
)

// The kinds of transactions that are of a transfer; behind the first they stand as the acts do.
const (
	prepare = iota + 4
	fulfil
	cancel
)

// What became of a transfer on a side.
const (
	nothing = iota
	prepared
)

const (
	coinAsset = 0

	// fewCoins is what a user has at least when it acts to fulfil: what it sends then costs coins.
	fewCoins = 4

	// mostSent is how often a transfer is sent at most from a start on.
	mostSent = 2
)

// view is what a user sees of a side, and the Nonce for what it sends there next.
type view struct {
	*chain.Chain
	state escrow.State
	next  int
}

// see is a side as it is now.
func see(c *chain.Chain, user int) view {
	return view{Chain: c, state: c.State(), next: c.Next(user)}
}

// is tells whether that became of a transfer.
func (v *view) is(key string, status int) bool {
	return escrow.Status(v.state, key) == status
}

// nonce is the Nonce for a user's transaction, behind those that wait, and those that are sent ahead of it in this look.
func (v *view) nonce(user int) int {
	nonce := v.next
	v.next++
	for slices.ContainsFunc(v.Pool(), func(t api.Tx) bool { return t.From == user && t.Nonce == v.next }) {
		v.next++
	}
	return nonce
}

// look is a look at both sides: what is seen, the records of what comes of it, and what is sent when these are sure.
type look struct {
	*Client
	views    [sides]view
	records  [][]byte
	messages []api.Message
	sends    []api.Send
}

// look looks at both sides. Nothing is written yet.
func (c *Client) look(s *chain.Chain, r *chain.Chain) *look {
	l := &look{Client: c, views: [sides]view{see(s, c.user), see(r, c.user)}}
	l.tradeAll()
	steps := [...]func(place int){l.lock, l.decide, l.perform, l.takeBack}
	for place := range l.pages {
		for _, step := range steps {
			step(place)
		}
	}
	return l
}

// tradeAll makes deals of the asks that have none, where a bid won.
func (l *look) tradeAll() {
	now := l.views[sending].Time()
	for _, a := range l.room.Asks() {
		if l.find(a.Id) >= 0 {
			continue
		}
		if best, ok := l.room.Best(a, now, l.d); ok {
			l.records = append(l.records, l.trade(best, now))
		}
	}
}

// send sends a transaction of the user's to a side, and tells whether it did: not if one of that transfer and kind waits there.
func (l *look) send(side int, t api.Tx) bool {
	v := &l.views[side]
	if v.Waits(l.user, deal.Key(t.Inv), t.Kind) {
		return false
	}
	t.From, t.Nonce = l.user, v.nonce(l.user)
	l.sends = append(l.sends, api.Send{Side: side, Tx: t})
	return true
}

// lock sends a transfer of which nothing is on the sending side there.
func (l *look) lock(place int) {
	p, s := &l.pages[place], &l.views[sending]
	if !s.is(p.key(), nothing) || s.Time() >= p.Var.Expiry || p.sent >= mostSent {
		return
	}
	if l.send(sending, api.Tx{Kind: prepare, Inv: p.Inv, Var: p.Var}) {
		p.sent++
	}
}

// far is what is prepared of a deal on the receiving side, and true; nothing and false, if it is not prepared there.
func (l *look) far(d Deal) (api.Var, bool) {
	r := &l.views[receiving]
	if !r.is(d.key(), prepared) {
		return api.Var{}, false
	}
	t, ok := scan.Prepared(r.Events(0), d.key())
	return t.Var, ok
}

// early tells whether what is sent now is included on the receiving side ahead of the Expiry there.
func (l *look) early(far api.Var) bool {
	return plan.Release(l.views[receiving].Time(), far.Expiry, l.d)
}

// rich tells whether the user has coins enough on the receiving side.
func (l *look) rich() bool {
	coins := l.views[receiving].state.Purse.Of(l.user, coinAsset)
	return wide.Cmp(coins, wide.Of(fewCoins)) >= 0
}

// decide acts to fulfil a deal that is prepared on both sides, with no less than was offered.
func (l *look) decide(place int) {
	p := l.pages[place]
	if p.Act != none || !l.views[sending].is(p.key(), prepared) {
		return
	}
	far, ok := l.far(p.Deal)
	if !ok || wide.Cmp(far.Amount, p.Offer) < 0 || !l.early(far) || !l.rich() {
		return
	}
	if record, ok := l.act(place, toFulfil); ok {
		l.records = append(l.records, record)
	}
}

// perform sends what the act on a deal signs to the receiving side, while it lasts there, and first to the relayer, too.
func (l *look) perform(place int) {
	p := &l.pages[place]
	if p.Act == none {
		return
	}
	far, ok := l.far(p.Deal)
	if !ok || l.views[receiving].Time() >= far.Expiry || !p.told && !l.early(far) {
		return
	}
	t := api.Tx{Kind: prepare + p.Act, Inv: p.Inv, Var: far, Fee: feeOf(p.Offer), Sig: l.sign(p.Deal)}
	sent := l.send(receiving, t)
	if p.Act == toFulfil && !p.told {
		l.messages = append(l.messages, api.Message{Kind: releaseMessage, Inv: t.Inv, Var: t.Var, Fee: t.Fee, Sig: t.Sig})
		sent = true
	}
	p.told = p.told || sent
}

// takeBack cancels on the sending side what is past there.
func (l *look) takeBack(place int) {
	p, s := &l.pages[place], &l.views[sending]
	if s.is(p.key(), prepared) && s.Time() >= p.Var.Expiry {
		l.send(sending, api.Tx{Kind: cancel, Inv: p.Inv, Var: p.Var})
	}
}
