package router

import (
	"narrows/api"
	"narrows/bid"
	"narrows/chain"
	"narrows/deal"
	"narrows/party"
	"narrows/plan"
	"narrows/quote"
	"narrows/scan"
	"narrows/wide"
)

// lasts is for how many delays, and ticks beside these, a bid holds.
const lasts = 8

// look is a look at both sides by a router.
type look struct {
	*Router
	party.Sight
}

// look looks at both sides. Nothing is written yet.
func (r *Router) look(s *chain.Chain, t *chain.Chain) *look {
	l := &look{Router: r, Sight: party.See(r.router, s, t)}
	l.bidAll()
	l.mirrorAll()
	for place := range l.pages {
		p := &l.pages[place]
		p.sent = l.Lock(party.Receiving, p.Inv, p.Var, p.sent)
		l.bring(p.Mirror)
		l.TakeBack(party.Receiving, p.Inv, p.Var)
	}
	return l
}

// bidAll bids for the asks that have no bid, while a leaf is left.
func (l *look) bidAll() {
	for _, a := range l.heard {
		if len(l.bids) >= leaves || l.find(func(b api.Bid) bool { return b.Ask == a }) >= 0 {
			continue
		}
		if b, ok := l.price(a); ok {
			l.Records = append(l.Records, l.offer(b))
			l.Messages = append(l.Messages, api.Message{Kind: party.Bid, Bid: l.bids[len(l.bids)-1]})
		}
	}
}

// price is what the router bids for an ask, not signed yet, and true; nothing and false, if there is nothing that it can bid.
func (l *look) price(a api.Ask) (api.Bid, bool) {
	now := l.Views[party.Sending].Time()
	amount, some := quote.Offer(a.Amount, quote.Points(l.router))
	b := api.Bid{Router: l.router, Ask: a, Amount: amount, Until: now + lasts*plan.Delay(l.d) + lasts}
	// At the end of all times a bid would hold for longer than a bid may.
	if !some || bid.Check(b) != api.OK {
		return api.Bid{}, false
	}
	promised, ok := l.promised(a.Recv, now)
	if !ok || !quote.Covers(l.vault(a.Recv), promised, amount) {
		return api.Bid{}, false
	}
	return b, true
}

// vault is what the router has of an asset in its vault on the receiving side.
func (l *look) vault(asset int) api.Wide {
	return l.Views[party.Receiving].State.Vault.Of(l.router, asset)
}

// mirrorAll mirrors what is prepared on the sending side as one of the router's bids says, where that is safe.
func (l *look) mirrorAll() {
	for _, t := range scan.Deals(l.Views[party.Sending].Events(0)) {
		if l.mirrored(func(p page) bool { return p.Inv == t.Inv }) {
			continue
		}
		place := l.find(func(b api.Bid) bool { return t.Inv == transfer(b, t.Inv.Root) && t.Var.Amount == b.Ask.Amount })
		if place >= 0 && l.safe(t, l.bids[place].Amount) {
			l.Records = append(l.Records, l.mirror(place, t, l.Views[party.Receiving].Time()))
		}
	}
}

// safe tells whether the router can prepare that amount for what t prepared, and bring the signature back in time.
func (l *look) safe(t api.Tx, amount api.Wide) bool {
	near, far, key := &l.Views[party.Sending], &l.Views[party.Receiving], deal.Key(t.Inv)
	return near.Is(key, party.Prepared) &&
		plan.Mirror(near.Time(), t.Var.Expiry, l.d) &&
		far.Is(key, party.Nothing) &&
		wide.Cmp(l.vault(t.Inv.Recv), amount) >= 0 &&
		near.Rich() && far.Rich()
}

// bring fulfils a mirror on the sending side with the signature that fulfilled it on the receiving one.
func (l *look) bring(m Mirror) {
	near, far := &l.Views[party.Sending], &l.Views[party.Receiving]
	if !far.Is(m.key(), party.Fulfilled) || !near.Is(m.key(), party.Prepared) {
		return
	}
	e, _ := scan.Fulfilled(far.Events(0), m.key())
	l.Send(party.Sending, api.Tx{Kind: party.Fulfil, Inv: m.Inv, Var: m.Far, Fee: e.Tx.Fee, Sig: e.Tx.Sig})
}
