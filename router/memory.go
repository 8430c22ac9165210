package router

import (
	"slices"

	"narrows/api"
	"narrows/bid"
	"narrows/deal"
	"narrows/field"
	"narrows/party"
	"narrows/plan"
	"narrows/wide"
)

// leaves is how often a key signs.
const leaves = 1 << api.Height

// What a record tells of; it begins with that.
const (
	aBid = iota
	aMirror
)

// Mirror is a transfer that the router prepares on the receiving side, as one of its bids says: what is each side's own, and the bid's Amount.
type Mirror struct {
	Inv   api.Inv
	Var   api.Var
	Far   api.Var
	Offer api.Wide
}

// page is a mirror, the place of its bid, and how often it was sent since the last start.
type page struct {
	Mirror
	bid  int
	sent int
}

// memory is who a router is, and what it knows: of its bids and mirrors, all that its journal tells.
type memory struct {
	router int
	d      int
	diary  party.Diary
	bids   []api.Bid
	pages  []page
}

// find is the place of the first bid that is what is looked for; below 0, if there is none.
func (m *memory) find(is func(b api.Bid) bool) int {
	return slices.IndexFunc(m.bids, is)
}

// mirrored tells whether there is a mirror that is what is looked for.
func (m *memory) mirrored(is func(p page) bool) bool {
	return slices.ContainsFunc(m.pages, is)
}

// promised is what of an asset may yet be asked for at that time by what the router bid, and true; zero and false, if it overflows.
func (m *memory) promised(asset int, now int) (api.Wide, bool) {
	var amounts []api.Wide
	for place, b := range m.bids {
		if b.Ask.Recv == asset && now <= b.Until && !m.mirrored(func(p page) bool { return p.bid == place }) {
			amounts = append(amounts, b.Amount)
		}
	}
	return wide.Sum(amounts...)
}

// reload forgets all that the journal does not tell.
func (m *memory) reload() {
	m.bids, m.pages = nil, nil
	for _, record := range m.diary.Records() {
		m.learn(record)
	}
}

// conclude is the record with these fields, which is known from now on.
func (m *memory) conclude(w *field.Out) []byte {
	record, _ := w.Done()
	// What is known comes of records alone, so that behind a fall it is the same.
	m.learn(record)
	return record
}

// offer is the record of a bid.
func (m *memory) offer(b api.Bid) []byte {
	w := field.New()
	w.Num(aBid)
	bid.PutAsk(w, b.Ask)
	w.Wide(b.Amount)
	w.Num(b.Until)
	return m.conclude(w)
}

// mirror is the record of a mirror of what t prepared, by the bid at that place, at that time of the receiving side.
func (m *memory) mirror(place int, t api.Tx, now int) []byte {
	w := field.New()
	w.Num(aMirror)
	w.Num(place)
	// All else of the transfer, and of the sending side, the bid tells.
	w.Text(t.Inv.Root)
	w.Num(t.Var.Expiry)
	// The time is put, not the Expiry, which may be above what a field takes.
	w.Num(now)
	return m.conclude(w)
}

// learn takes in what a record tells.
func (m *memory) learn(record []byte) {
	r := field.Open(record)
	if r.Num(aMirror) == aBid {
		m.bids = append(m.bids, m.offered(r))
		return
	}
	m.pages = append(m.pages, m.matched(r))
}

// offered reads a bid, which the next leaf signs.
func (m *memory) offered(r *field.In) api.Bid {
	b := api.Bid{Router: m.router}
	b.Ask = bid.GetAsk(r)
	b.Amount = r.Wide()
	b.Until = r.Num(api.MaxNum)
	b, _, _ = bid.Sign(api.Key{Seed: bid.Seed(m.router), Next: len(m.bids)}, b)
	return b
}

// matched reads a mirror.
func (m *memory) matched(r *field.In) page {
	place := r.Num(leaves - 1)
	root := r.Text(api.MaxText)
	expiry := r.Num(api.MaxNum)
	now := r.Num(api.MaxNum)
	b := m.bids[place]
	return page{
		Mirror: Mirror{
			Inv:   transfer(b, root),
			Var:   api.Var{Amount: b.Amount, Expiry: now + plan.Short(m.d)},
			Far:   api.Var{Amount: b.Ask.Amount, Expiry: expiry},
			Offer: b.Amount,
		},
		bid: place,
	}
}

// transfer is what a user with that root prepares that takes a bid.
func transfer(b api.Bid, root string) api.Inv {
	a := b.Ask
	return api.Inv{User: a.User, Root: root, Router: b.Router, Send: a.Send, Recv: a.Recv, To: a.To, Id: a.Id}
}

// key is the transfer's name on both sides.
func (m Mirror) key() string {
	return deal.Key(m.Inv)
}
