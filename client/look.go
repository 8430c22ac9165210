package client

import (
	"narrows/api"
	"narrows/chain"
	"narrows/party"
	"narrows/plan"
	"narrows/scan"
	"narrows/wide"
)

// look is a look at both sides by a user.
type look struct {
	*Client
	party.Sight
}

// look looks at both sides. Nothing is written yet.
func (c *Client) look(s *chain.Chain, r *chain.Chain) *look {
	l := &look{Client: c, Sight: party.See(c.user, s, r)}
	l.tradeAll()
	steps := [...]func(place int){l.lock, l.decide, l.perform, l.takeBack}
	for place := range l.pages {
		for _, step := range steps {
			step(place)
		}
	}
	return l
}

// tradeAll makes deals of the asks that have none, where a bid won.
func (l *look) tradeAll() {
	now := l.Views[party.Sending].Time()
	for _, a := range l.room.Asks() {
		if l.find(a.Id) >= 0 {
			continue
		}
		if best, ok := l.room.Best(a, now, l.d); ok {
			l.Records = append(l.Records, l.trade(best, now))
		}
	}
}

// lock sends what the user gives to the sending side.
func (l *look) lock(place int) {
	p := &l.pages[place]
	p.sent = l.Lock(party.Sending, p.Inv, p.Var, p.sent)
}

// far is what is prepared of a deal on the receiving side, and true; nothing and false, if it is not prepared there.
func (l *look) far(d Deal) (api.Var, bool) {
	r := &l.Views[party.Receiving]
	if !r.Is(d.key(), party.Prepared) {
		return api.Var{}, false
	}
	t, ok := scan.Prepared(r.Events(0), d.key())
	return t.Var, ok
}

// early tells whether what is sent now is included on the receiving side ahead of the Expiry there.
func (l *look) early(far api.Var) bool {
	return plan.Release(l.Views[party.Receiving].Time(), far.Expiry, l.d)
}

// decide acts to fulfil a deal that is prepared on both sides, with no less than was offered.
func (l *look) decide(place int) {
	p := l.pages[place]
	if p.Act != none || !l.Views[party.Sending].Is(p.key(), party.Prepared) {
		return
	}
	far, ok := l.far(p.Deal)
	if !ok || wide.Cmp(far.Amount, p.Offer) < 0 || !l.early(far) || !l.Views[party.Receiving].Rich() {
		return
	}
	if record, ok := l.act(place, toFulfil); ok {
		l.Records = append(l.Records, record)
	}
}

// perform sends what the act on a deal signs to the receiving side, while it lasts there, and first to the relayer, too.
func (l *look) perform(place int) {
	p := &l.pages[place]
	if p.Act == none {
		return
	}
	far, ok := l.far(p.Deal)
	if !ok || l.Views[party.Receiving].Time() >= far.Expiry || !p.told && !l.early(far) {
		return
	}
	t := api.Tx{Kind: party.Prepare + p.Act, Inv: p.Inv, Var: far, Fee: feeOf(p.Offer), Sig: l.sign(p.Deal)}
	sent := l.Send(party.Receiving, t)
	if p.Act == toFulfil && !p.told {
		l.Messages = append(l.Messages, api.Message{Kind: party.Release, Inv: t.Inv, Var: t.Var, Fee: t.Fee, Sig: t.Sig})
		sent = true
	}
	p.told = p.told || sent
}

// takeBack cancels on the sending side what is past there.
func (l *look) takeBack(place int) {
	p := l.pages[place]
	l.TakeBack(party.Sending, p.Inv, p.Var)
}
