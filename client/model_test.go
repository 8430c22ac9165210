package client

import (
	"fmt"
	"math/rand"
	"slices"
	"testing"

	"narrows/api"
	"narrows/auction"
	"narrows/bid"
	"narrows/chain"
	"narrows/deal"
	"narrows/mail"
	"narrows/mss"
	"narrows/wide"
)

// note is a record of the model: how many octets its frame has, and what it tells.
type note struct {
	octets int
	begun  *Deal
	id     string
	act    int
	leaf   int
}

// model is a user, written a second time: by Ids, by events alone, and with notes for octets.
type model struct {
	user, d, room int
	roots         []string
	hall          *auction.Room
	down          bool
	sure          []note
	known         []Deal
	sent, told    map[string]int
}

// beginModel is a model of what New makes.
func beginModel(user int, roots []string, d int, room int) *model {
	m := &model{user: user, d: min(max(d, 1), 4), room: room, roots: roots}
	m.rest(nil)
	m.down = false
	return m
}

// rest is what is left behind a fall: what was sure, and those of l that lasted.
func (m *model) rest(l []note) {
	m.sure = append(m.sure, l...)
	m.known, m.down = nil, true
	m.sent, m.told = map[string]int{}, map[string]int{}
	m.hall = auction.New(m.roots)
	for _, n := range m.sure {
		m.tell(n)
	}
}

// tell takes a note in.
func (m *model) tell(n note) {
	if n.begun != nil {
		m.known = append(m.known, *n.begun)
		return
	}
	for place := range m.known {
		if m.known[place].Ask.Id == n.id {
			m.known[place].Act, m.known[place].Leaf = n.act, n.leaf
		}
	}
}

// has is the deal of that Id; nil, if there is none.
func (m *model) has(id string) *Deal {
	for place := range m.known {
		if m.known[place].Ask.Id == id {
			return &m.known[place]
		}
	}
	return nil
}

// size is how many octets all notes have.
func size(l []note) int {
	n := 0
	for _, x := range l {
		n += x.octets
	}
	return n
}

// keep is whether there is room; else it is down.
func (m *model) keep(l []note) bool {
	if size(m.sure)+size(l) > min(max(m.room, 0), 1<<16) {
		m.rest(nil)
		return false
	}
	m.sure = append(m.sure, l...)
	return true
}

// fall is Fall, written a second time; l is what a look came to.
func (m *model) fall(l []note, keep int) {
	if size(m.sure)+size(l) > min(max(m.room, 0), 1<<16) {
		l = nil
	}
	whole := 0
	for whole < len(l) && size(l[:whole+1]) <= keep {
		whole++
	}
	m.rest(l[:whole])
}

// began is the note of a deal.
func (m *model) began(b api.Bid, now int) note {
	a := b.Ask
	d := Deal{Ask: a, Offer: b.Amount, Var: api.Var{Amount: a.Amount, Expiry: now + 16*m.d + 12}}
	d.Inv = api.Inv{User: m.user, Root: mss.Root("user" + string(rune(m.user))), Router: b.Router, Send: a.Send, Recv: a.Recv, To: a.To, Id: a.Id}
	return note{octets: 114 + len(a.Id), begun: &d}
}

// acts lets it act, if a leaf is left.
func (m *model) acts(id string, act int) []note {
	leaf := 0
	for _, d := range m.known {
		if d.Act != 0 {
			leaf++
		}
	}
	if leaf == 8 {
		return nil
	}
	n := note{octets: 24, id: id, act: act, leaf: leaf}
	m.tell(n)
	return []note{n}
}

// became tells of a transfer what events say: its status, and what prepared it first.
func became(l []api.Event, key string) (int, api.Var) {
	status, first := 0, api.Var{}
	for _, e := range l {
		if e.Code == api.OK && e.Tx.Kind >= 4 && deal.Key(e.Tx.Inv) == key {
			status = e.Tx.Kind - 3
			if first == (api.Var{}) {
				first = e.Tx.Var
			}
		}
	}
	return status, first
}

// waits tells whether such a one waits.
func waits(c *chain.Chain, user int, key string, kind int) bool {
	return slices.ContainsFunc(c.Pool(), func(t api.Tx) bool { return t.From == user && t.Kind == kind && deal.Key(t.Inv) == key })
}

// post is what goes out in a look.
type post struct {
	user     int
	chains   [2]*chain.Chain
	used     [2]map[int]bool
	messages []api.Message
	sends    []api.Send
	notes    []note
}

// send sends to a side with the least Nonce that is not used.
func (o *post) send(side int, t api.Tx) {
	if o.used[side] == nil {
		o.used[side] = map[int]bool{}
		for _, x := range o.chains[side].Pool() {
			if x.From == o.user {
				o.used[side][x.Nonce] = true
			}
		}
	}
	t.From = o.user
	for _, e := range o.chains[side].Events(0) {
		if e.Tx.From == o.user {
			t.Nonce++
		}
	}
	for o.used[side][t.Nonce] {
		t.Nonce++
	}
	o.used[side][t.Nonce] = true
	o.sends = append(o.sends, api.Send{Side: side, Tx: t})
}

// fees is the fee of an offer.
func fees(offer api.Wide) api.Wide {
	if offer == wide.Of(0) || offer == wide.Of(1) {
		return wide.Of(0)
	}
	return wide.Of(1)
}

// sign is what the user signs for its act.
func (m *model) sign(d Deal) string {
	sig, _, err := mss.Sign(api.Key{Seed: "user" + string(rune(m.user)), Next: d.Leaf}, deal.Payload(d.Act, deal.Key(d.Inv), fees(d.Offer)))
	if err != api.OK {
		panic("there is no such leaf")
	}
	return sig
}

// look is a look, written a second time.
func (m *model) look(s *chain.Chain, r *chain.Chain) *post {
	o := &post{user: m.user, chains: [2]*chain.Chain{s, r}}
	for _, a := range m.hall.Asks() {
		if b, ok := m.hall.Best(a, s.Time(), m.d); ok && m.has(a.Id) == nil {
			n := m.began(b, s.Time())
			o.notes = append(o.notes, n)
			m.tell(n)
		}
	}
	for place := range m.known {
		m.each(o, &m.known[place], s, r)
	}
	return o
}

// each is what a look does with a deal.
func (m *model) each(o *post, d *Deal, s *chain.Chain, r *chain.Chain) {
	key, id := deal.Key(d.Inv), d.Ask.Id
	near, _ := became(s.Events(0), key)
	far, there := became(r.Events(0), key)
	if near == 0 && s.Time() < d.Var.Expiry && !waits(s, m.user, key, 4) && m.sent[id] < 2 {
		m.sent[id]++
		o.send(0, api.Tx{Kind: 4, Inv: d.Inv, Var: d.Var})
	}
	left := there.Expiry - r.Time()
	if d.Act == 0 && near == 1 && far == 1 && wide.Cmp(there.Amount, d.Offer) >= 0 && left > m.d+1 && wide.Cmp(r.State().Purse[m.user][0], wide.Of(3)) > 0 {
		o.notes = append(o.notes, m.acts(id, 1)...)
	}
	if d.Act != 0 && far == 1 && left > 0 && (m.told[id] > 0 || left > m.d+1) {
		t := api.Tx{Kind: 4 + d.Act, Inv: d.Inv, Var: there, Fee: fees(d.Offer), Sig: m.sign(*d)}
		if d.Act == 1 && m.told[id] == 0 {
			m.told[id]++
			o.messages = append(o.messages, api.Message{Kind: 3, Inv: d.Inv, Var: there, Fee: t.Fee, Sig: t.Sig})
		}
		if !waits(r, m.user, key, t.Kind) {
			m.told[id]++
			o.send(1, t)
		}
	}
	if near == 1 && s.Time() >= d.Var.Expiry && !waits(s, m.user, key, 6) {
		o.send(0, api.Tx{Kind: 6, Inv: d.Inv, Var: d.Var})
	}
}

// ask is Ask, written a second time.
func (m *model) ask(a api.Ask, now int) (api.Message, api.Errno) {
	if m.down {
		return api.Message{}, api.ErrDown
	}
	if a.User != m.user {
		return api.Message{}, api.ErrRoute
	}
	if m.has(a.Id) != nil {
		return api.Message{}, api.ErrStatus
	}
	if err := m.hall.Open(a, now); err != api.OK {
		return api.Message{}, err
	}
	return api.Message{Kind: 1, Ask: a}, api.OK
}

// hear is Hear, written a second time.
func (m *model) hear(b []byte, now int) bool {
	x, err := mail.Read(b)
	return !m.down && err == api.OK && x.Kind == 2 && m.hall.Bid(x.Bid, now)
}

// recall is Recall, written a second time.
func (m *model) recall(id string) api.Errno {
	switch d := m.has(id); {
	case m.down:
		return api.ErrDown
	case d == nil:
		return api.ErrNone
	case d.Act != 0:
		return api.ErrStatus
	}
	l := m.acts(id, 2)
	if l == nil || !m.keep(l) {
		return api.ErrFull
	}
	return api.OK
}

// signed is Signed, written a second time.
func (m *model) signed() []string {
	var all []string
	for leaf := range 8 {
		for _, d := range m.known {
			if d.Act != 0 && d.Leaf == leaf {
				all = append(all, string(deal.Payload(d.Act, deal.Key(d.Inv), fees(d.Offer))))
			}
		}
	}
	return all
}

// play is a user, its model, both sides, and what it ever signed.
type play struct {
	*town
	m     *model
	rand  *rand.Rand
	eager bool
	by    map[int]string
	acts  map[string]int
	seen  map[string]int
}

// pick is one of l.
func pick[T any](r *rand.Rand, l ...T) T {
	return l[r.Intn(len(l))]
}

// same tells it, if the user answers otherwise than the model.
func (p *play) same(t *testing.T, what string) {
	t.Helper()
	if got := p.c.Down(); got != p.m.down {
		t.Fatalf("%s: Down() = %t", what, got)
	}
	if got := p.c.Deals(); !slices.Equal(got, p.m.known) {
		t.Fatalf("%s: Deals() =\n%#v; want\n%#v", what, got, p.m.known)
	}
	if got := p.c.Signed(); !slices.Equal(got, p.m.signed()) {
		t.Fatalf("%s: Signed() = %q; want %q", what, got, p.m.signed())
	}
}

// once tells it, if a leaf signed two unlike payloads, or a transfer is signed for both acts (P20.2).
func (p *play) once(t *testing.T, i api.Inv, act int, fee api.Wide, sig string) {
	t.Helper()
	key := deal.Key(i)
	payload := deal.Payload(act, key, fee)
	leaf, ok := mss.Verify(p.c.Root(), payload, sig)
	if !ok || i.Root != p.c.Root() {
		t.Fatalf("it is not signed: %#v", i)
	}
	if other, is := p.by[leaf]; is && other != string(payload) {
		t.Fatalf("leaf %d signed %q and %q", leaf, other, payload)
	}
	if p.acts[key] != 0 && p.acts[key] != act {
		t.Fatalf("both acts are signed of %#v", i)
	}
	p.by[leaf], p.acts[key] = string(payload), act
}

// look lets both look, and submits most of what is sent.
func (p *play) look(t *testing.T) {
	messages, sends := p.c.Look(p.s, p.r)
	var want post
	if !p.m.down {
		o := p.m.look(p.s, p.r)
		if p.m.keep(o.notes) {
			want = *o
		} else {
			p.seen["no room"]++
		}
		p.seen["note"] += len(want.notes)
	}
	if !slices.Equal(messages, want.messages) || !slices.Equal(sends, want.sends) {
		t.Fatalf("Look() =\n%#v\n%#v; want\n%#v\n%#v", messages, sends, want.messages, want.sends)
	}
	for _, m := range messages {
		p.seen["release"]++
		p.once(t, m.Inv, 1, m.Fee, m.Sig)
	}
	for _, x := range sends {
		p.seen[fmt.Sprintf("side %d kind %d", x.Side, x.Tx.Kind)]++
		if x.Side == 1 {
			p.once(t, x.Tx.Inv, x.Tx.Kind-4, x.Tx.Fee, x.Tx.Sig)
		}
		if p.rand.Intn(5) > 0 {
			p.side(x.Side).Submit(x.Tx)
		}
	}
	if len(sends) > 1 {
		p.seen["two at once"]++
	}
}

// ids are what deals are called.
func ids() []string {
	return []string{"a", "b", "c", "d", "e", "the sixteenth id", "g", "h", "i", "j", "k", "l"}
}

// ask lets both ask.
func (p *play) ask(t *testing.T) {
	a := ask(p.m.user, pick(p.rand, ids()...))
	a.Amount = wide.Of(pick[uint64](p.rand, 1, 2, 100))
	if p.rand.Intn(9) == 0 {
		a.User, a.Id = 1, ""
	}
	now := p.s.Time()
	got, err := p.c.Ask(a, now)
	want, why := p.m.ask(a, now)
	if got != want || err != why {
		t.Fatalf("Ask(%#v, %d) = %#v, %d; want %#v, %d", a, now, got, err, want, why)
	}
	p.seen[fmt.Sprint("ask ", err)]++
}

// hear lets both hear a bid for something that is asked for.
func (p *play) hear(t *testing.T) {
	l := append(p.m.hall.Asks(), ask(p.m.user, "never"))
	a := l[p.rand.Intn(len(l))]
	b := api.Bid{Router: 2 + p.rand.Intn(2), Ask: a, Amount: pick(p.rand, wide.Of(1), wide.Of(2), a.Amount), Until: p.s.Time() + p.rand.Intn(9)}
	if bid.Check(b) != api.OK {
		b.Amount = a.Amount
	}
	octets := put(t, api.Message{Kind: 2, Bid: by(b.Router, p.rand.Intn(8), b)})
	if p.rand.Intn(9) == 0 {
		octets[p.rand.Intn(len(octets))]++
	}
	got, want := p.c.Hear(octets, p.s.Time()), p.m.hear(octets, p.s.Time())
	if got != want {
		t.Fatalf("Hear(%#v) = %t", b, got)
	}
	p.seen[fmt.Sprint("hear ", got)]++
}

// others lets routers, the relayer and the user's own hand do something with a deal.
func (p *play) others() {
	d := p.m.known[p.rand.Intn(len(p.m.known))]
	key := deal.Key(d.Inv)
	_, there := became(p.r.Events(0), key)
	switch p.rand.Intn(9) {
	case 0:
		p.put(0, api.Tx{From: d.Inv.Router, Kind: 6, Inv: d.Inv, Var: d.Var})
	case 1:
		p.put(1, api.Tx{From: d.Inv.Router, Kind: 6, Inv: d.Inv, Var: there})
	case 2:
		if d.Act == 1 {
			p.put(1, api.Tx{From: 4, Kind: 5, Inv: d.Inv, Var: there, Fee: fees(d.Offer), Sig: p.m.sign(d)})
		}
	case 3:
		if d.Act == 1 {
			p.put(0, api.Tx{From: d.Inv.Router, Kind: 5, Inv: d.Inv, Var: d.Var, Fee: fees(d.Offer), Sig: p.m.sign(d)})
		}
	case 4:
		if there.Expiry > 0 {
			p.side(1).Submit(api.Tx{From: p.m.user, Nonce: p.r.Next(p.m.user) + p.rand.Intn(2), Kind: 5 + p.rand.Intn(2), Inv: d.Inv, Var: there, Sig: "none"})
		}
	default:
		offer, _ := wide.Small(d.Offer)
		v := api.Var{Amount: wide.Of(offer + uint64(p.rand.Intn(3))), Expiry: p.r.Time() + 1 + p.rand.Intn(16)}
		if p.rand.Intn(6) == 0 && offer > 1 {
			v.Amount = wide.Of(offer - 1)
		}
		p.put(1, api.Tx{From: d.Inv.Router, Kind: 4, Inv: d.Inv, Var: v})
	}
}

// purse leaves the user few coins on the receiving side, or gives it some.
func (p *play) purse() {
	have, _ := wide.Small(p.r.State().Purse.Of(p.m.user, 0))
	leave := uint64(3 + p.rand.Intn(3))
	if have > leave+1 {
		p.put(1, api.Tx{From: p.m.user, Kind: 1, Amount: wide.Of(have - leave - 1), Inv: api.Inv{To: 7}})
	} else {
		p.put(1, api.Tx{From: 7, Kind: 1, Amount: wide.Of(30), Inv: api.Inv{To: p.m.user}})
	}
}

// falls lets both fall.
func (p *play) falls() {
	keep := pick(p.rand, -1, 0, 5, p.rand.Intn(300), p.rand.Intn(300), 1<<16)
	if p.eager {
		keep = 1 << 16
	}
	p.c.Fall(p.s, p.r, keep)
	if !p.m.down {
		o := p.m.look(p.s, p.r)
		was := len(p.m.sure)
		p.m.fall(o.notes, keep)
		p.seen["fall"]++
		p.seen["lasted"] += len(p.m.sure) - was
		p.seen["gone"] += len(o.notes) - len(p.m.sure) + was
	}
}

// step does one thing.
func (p *play) step(t *testing.T) {
	switch n := p.rand.Intn(60); {
	case n < 6:
		p.ask(t)
	case n < 14:
		p.hear(t)
	case n < 28:
		p.look(t)
	case n < 38:
		include(p.side(n % 2))
	case n < 44:
		p.s.Rise(p.rand.Intn(3))
		p.r.Rise(p.rand.Intn(3))
	case n == 44:
		p.s.Rise(p.rand.Intn(30))
	case n < 53 && len(p.m.known) > 0:
		p.others()
	case n == 53:
		p.purse()
	case n == 54:
		p.falls()
	case n < 58:
		if err := p.c.Up(); err == api.OK != p.m.down || err != api.OK && err != api.ErrState {
			t.Fatalf("Up() = %d", err)
		}
		p.m.down = false
	default:
		p.recall(t, pick(p.rand, ids()...))
	}
	if p.eager && len(p.m.known) > 0 && p.rand.Intn(5) == 0 {
		p.recall(t, p.m.known[p.rand.Intn(len(p.m.known))].Ask.Id)
	}
}

// recall lets both recall.
func (p *play) recall(t *testing.T, id string) {
	full := len(p.m.signed()) == 8
	got, want := p.c.Recall(id), p.m.recall(id)
	if got != want {
		t.Fatalf("Recall(%q) = %d, want %d", id, got, want)
	}
	p.seen[fmt.Sprint("recall ", got)]++
	if full && got == api.ErrFull {
		p.seen["no leaf"]++
	}
}

// P20.1, P20.2: whatever happens, all is as the second writing says, no leaf signs two unlike payloads, and no deal has two acts.
func TestAtRandom(t *testing.T) {
	r := rand.New(rand.NewSource(20))
	seen := map[string]int{}
	for n := range 120 {
		user, d, room := n%2, n%6, pick(r, 1<<16, 1<<16, 1<<16, 300+r.Intn(700))
		// An eager one lives to act so often that no leaf is left.
		eager := n%3 == 0
		if eager {
			room = 1 << 16
		}
		p := &play{town: begin(t, user, d, room), m: beginModel(user, both(), d, room), rand: r, eager: eager, by: map[int]string{}, acts: map[string]int{}, seen: seen}
		for range 400 {
			p.step(t)
			p.same(t, fmt.Sprint("run ", n))
		}
	}
	for _, what := range []string{"note", "no room", "release", "side 0 kind 4", "side 0 kind 6", "side 1 kind 5", "side 1 kind 6", "two at once", "ask 0", "ask 17", "ask 32", "ask 39",
		"hear true", "hear false", "fall", "lasted", "gone", "recall 0", "recall 10", "recall 14", "recall 17", "recall 32", "no leaf"} {
		if seen[what] < 10 {
			t.Errorf("%s: %d times", what, seen[what])
		}
	}
}
