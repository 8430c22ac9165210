package client

import (
	"slices"

	"narrows/api"
	"narrows/bid"
	"narrows/deal"
	"narrows/field"
	"narrows/mss"
	"narrows/party"
	"narrows/plan"
)

// leaves is how often a key signs.
const leaves = 1 << api.Height

// What a user does with a deal. A record begins with it, that of a new deal with none.
const (
	none = iota
	toFulfil
	toCancel
)

// Deal is an ask with the bid that won it, the transfer that came of both, and what the user did with it.
type Deal struct {
	Ask   api.Ask
	Offer api.Wide
	Inv   api.Inv
	Var   api.Var
	Act   int
	Leaf  int
}

// key is the transfer's name on both sides.
func (d Deal) key() string {
	return deal.Key(d.Inv)
}

// payload is what the user signs for its act.
func (d Deal) payload() []byte {
	return deal.Payload(d.Act, d.key(), feeOf(d.Offer))
}

// person is who a user is: nothing of it ever changes.
type person struct {
	user  int
	root  string
	roots [api.Routers]string
	d     int
}

// sign is the signature for an act.
func (p person) sign(d Deal) string {
	sig, _, _ := mss.Sign(api.Key{Seed: Seed(p.user), Next: d.Leaf}, d.payload())
	return sig
}

// page is a deal, and what was sent of it since the last start: how often the transfer, and whether anything for the act.
type page struct {
	Deal
	sent int
	told bool
}

// memory is what a user knows: of its deals, all that its journal tells.
type memory struct {
	person
	diary party.Diary
	pages []page
}

// find is the place of the deal with that Id; below 0, if there is none.
func (m *memory) find(id string) int {
	return slices.IndexFunc(m.pages, func(p page) bool { return p.Ask.Id == id })
}

// acted is the deals that have an act.
func (m *memory) acted() []page {
	return slices.DeleteFunc(slices.Clone(m.pages), func(p page) bool { return p.Act == none })
}

// reload forgets all that the journal does not tell.
func (m *memory) reload() {
	m.pages = nil
	for _, record := range m.diary.Records() {
		m.learn(record)
	}
}

// conclude is the record with these fields, which is known from now on.
func (m *memory) conclude(w *field.Out) []byte {
	record, _ := w.Done()
	// What is known comes of records alone, so that behind a fall it is the same.
	m.learn(record)
	return record
}

// trade is the record of a deal by the bid that won at that time of the sending side.
func (m *memory) trade(b api.Bid, now int) []byte {
	w := field.New()
	w.Num(none)
	bid.PutAsk(w, b.Ask)
	w.Num(b.Router)
	w.Wide(b.Amount)
	// The time is put, not the Expiry, which may be above what a field takes.
	w.Num(now)
	return m.conclude(w)
}

// act is the record of an act on the deal at that place, and true; nothing and false, if no leaf is left for it.
func (m *memory) act(place int, act int) ([]byte, bool) {
	leaf := len(m.acted())
	if leaf >= leaves {
		return nil, false
	}
	w := field.New()
	w.Num(act)
	w.Num(place)
	w.Num(leaf)
	return m.conclude(w), true
}

// learn takes in what a record tells.
func (m *memory) learn(record []byte) {
	r := field.Open(record)
	act := r.Num(toCancel)
	if act == none {
		m.pages = append(m.pages, page{Deal: m.traded(r)})
		return
	}
	p := &m.pages[r.Num(len(m.pages)-1)]
	p.Act = act
	p.Leaf = r.Num(leaves - 1)
}

// traded reads a deal as it is at first.
func (m *memory) traded(r *field.In) Deal {
	a := bid.GetAsk(r)
	router := r.Num(api.MaxNum)
	offer := r.Wide()
	now := r.Num(api.MaxNum)
	return Deal{
		Ask:   a,
		Offer: offer,
		Inv:   api.Inv{User: a.User, Root: m.root, Router: router, Send: a.Send, Recv: a.Recv, To: a.To, Id: a.Id},
		Var:   api.Var{Amount: a.Amount, Expiry: now + plan.Long(m.d)},
	}
}
