package world

import (
	"slices"

	"narrows/api"
	"narrows/deal"
	"narrows/mss"
	"narrows/party"
	"narrows/plan"
)

// half is a transfer, as one side has it.
type half struct {
	inv api.Inv
	own api.Var
}

// past is what is known of what went by: who was late, whether something was forged, and whether names clash.
type past struct {
	// looked is the tick of each user's and router's last look.
	looked [relayer]int
	late   [relayer]bool

	// waits is since which tick what users and routers submitted waits.
	waits map[api.Send]int

	// transfers, by key, and halves, by digest, are what was submitted under that name.
	transfers map[string]api.Inv
	halves    map[string]half

	forged bool
	clash  bool
}

// noPast is the past of a world in which nothing went by yet.
func noPast() past {
	return past{waits: map[api.Send]int{}, transfers: map[string]api.Inv{}, halves: map[string]half{}}
}

// expect marks since when what was submitted waits; also what a ledger had no room for, as it is not included either, and who stuffs a ledger could make its sender lose.
func (p *past) expect(sends []api.Send, now int) {
	for _, s := range sends {
		if _, waits := p.waits[s]; !waits {
			p.waits[s] = now
		}
	}
}

// markLate marks who did not look for more than a delay, and whose transaction waited for so long.
func (p *past) markLate(now int, d int) {
	for n, since := range p.looked {
		p.late[n] = p.late[n] || plan.Due(since, now, d)
	}
	for s, since := range p.waits {
		p.late[s.Tx.From] = p.late[s.Tx.From] || plan.Due(since, now, d)
	}
}

// meet takes in a transaction's transfer, and what is a side's own of it.
func (p *past) meet(t api.Tx) {
	if t.Kind < party.Prepare {
		return
	}
	if unlike(p.transfers, deal.Key(t.Inv), t.Inv) || unlike(p.halves, deal.Digest(t.Inv, t.Var), half{t.Inv, t.Var}) {
		p.clash = true
	}
}

// unlike tells whether something else was met under that name, which is x's from now on.
func unlike[T comparable](met map[string]T, name string, x T) bool {
	other, ok := met[name]
	met[name] = x
	return ok && other != x
}

// settle takes in what was included on both sides since it last did.
func (w *World) settle() {
	for side := range w.sides {
		for _, e := range w.sides[side].news() {
			delete(w.waits, api.Send{Side: side, Tx: e.Tx})
			w.forged = w.forged || w.forgery(e.Tx)
		}
	}
}

// forgery tells whether a transaction brings a signature of a user's key for what that user never acted for.
func (w *World) forgery(t api.Tx) bool {
	// Behind what prepares, kinds stand as acts do; of other kinds there is no payload.
	payload := deal.Payload(t.Kind-party.Prepare, deal.Key(t.Inv), t.Fee)
	if payload == nil {
		return false
	}
	for n := range api.Users {
		// A user who is corrupted is none, and has no root that anything leads to.
		c := w.Client(n)
		_, signed := mss.Verify(c.Root(), payload, t.Sig)
		if signed && !slices.Contains(c.Signed(), string(payload)) {
			return true
		}
	}
	return false
}
