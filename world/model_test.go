package world

import (
	"reflect"
	"slices"
	"testing"

	"narrows/api"
	"narrows/bid"
	"narrows/chain"
	"narrows/client"
	"narrows/deal"
	"narrows/mail"
	"narrows/mss"
	"narrows/relay"
	"narrows/router"
	"narrows/txs"
	"narrows/wide"
)

// sending is what a user or router sent, and when.
type sending struct {
	side int
	tx   api.Tx
	tick int
}

// model is a world, written a second time: all that was, in lists, out of which what is asked for is worked out.
type model struct {
	s       Setup
	ticks   int
	sides   [2]*chain.Chain
	users   [2]*client.Client
	routers [4]*router.Router
	relay   *relay.Relay
	mail    []api.Mail
	asks    [2]int
	looks   [4][]int
	sent    []sending
	met     []api.Tx
	forged  bool
}

// beginModel is a model of what New makes.
func beginModel(s Setup) *model {
	m := &model{s: s, sides: [2]*chain.Chain{chain.New(0, 1000), chain.New(1, 1000+s.Skew)}}
	for n := range 2 {
		if !m.bad(n) {
			m.users[n], _ = client.New(n, []string{mss.Root("router\x02"), mss.Root("router\x03")}, s.Delay, s.Room)
		}
	}
	for n := 2; n < 4; n++ {
		if m.bad(n) {
			continue
		}
		m.routers[n], _ = router.New(n, s.Delay, s.Room)
		for asset := range 2 {
			m.sides[1].Submit(api.Tx{From: n, Nonce: asset, Kind: 2, Asset: asset, Amount: wide.Of(400), Inv: api.Inv{Router: n}})
			m.sides[1].Include(0)
		}
	}
	if !m.bad(4) {
		m.relay = relay.New()
	}
	return m
}

// bad tells whether nobody looks for an account.
func (m *model) bad(n int) bool {
	return slices.Contains([]int{5, 6, 7}, n) || slices.Contains([]int{1, 2, 4, 8, 16}, m.s.Corrupt&(1<<n))
}

// up tells whether there is such a user or router, and whether it is up.
func (m *model) up(n int) bool {
	switch {
	case n == 0 || n == 1:
		return !m.users[n].Down()
	case n == 2 || n == 3:
		return !m.routers[n].Down()
	}
	return false
}

// post puts a letter on its way.
func (m *model) post(to int, data []byte) {
	if len(m.mail) < 512 {
		m.mail = append(m.mail, api.Mail{To: to, Data: slices.Clone(data)})
	}
}

// round is n, counted round many.
func round(n int, many int) int {
	n %= many
	if n < 0 {
		n += many
	}
	return n
}

// take takes a letter out of those on their way.
func (m *model) take(at int) (api.Mail, bool) {
	if len(m.mail) == 0 {
		return api.Mail{}, false
	}
	at = round(at, len(m.mail))
	l := m.mail[at]
	m.mail = slices.Delete(slices.Clone(m.mail), at, at+1)
	return l, true
}

// give lets whom it is for hear.
func (m *model) give(l api.Mail) {
	switch l.To {
	case 0, 1:
		m.users[l.To].Hear(l.Data, m.sides[0].Time())
	case 2, 3:
		m.routers[l.To].Hear(l.Data)
	case 4:
		m.relay.Hear(l.Data)
	}
}

// submit submits to a side.
func (m *model) submit(side int, t api.Tx) {
	m.sides[side].Submit(t)
	m.met = append(m.met, t)
}

// look lets a party look.
func (m *model) look(n int) {
	var messages []api.Message
	var sends []api.Send
	switch n {
	case 0, 1:
		messages, sends = m.users[n].Look(m.sides[0], m.sides[1])
	case 2, 3:
		messages, sends = m.routers[n].Look(m.sides[0], m.sides[1])
	case 4:
		sends = m.relay.Look(m.sides[1])
		if m.relay == nil {
			sends = nil
		}
	}
	for _, x := range messages {
		data, _ := mail.Put(x)
		to := x.Bid.Ask.User
		if x.Kind == 3 {
			to = 4
		}
		m.post(to, data)
	}
	for _, x := range sends {
		if n < 4 {
			m.sent = append(m.sent, sending{x.Side, x.Tx, m.ticks})
		}
		m.submit(x.Side, x.Tx)
	}
	if m.up(n) {
		m.looks[n] = append(m.looks[n], m.ticks)
	}
}

// ask lets a user ask.
func (m *model) ask(n int, amount int, asset int) {
	if n < 0 || n > 1 || m.users[n] == nil || amount < 1 {
		return
	}
	asset = round(asset, 2)
	count := m.asks[n] + 1
	a := api.Ask{User: n, Send: asset, Recv: asset, To: 5 + n, Amount: api.Wide{uint64(amount)}, Id: string([]byte{0, byte(n), byte(count >> 8), byte(count)})}
	x, err := m.users[n].Ask(a, m.sides[0].Time())
	if err != api.OK {
		return
	}
	m.asks[n] = count
	data, _ := mail.Put(x)
	m.post(2, data)
	m.post(3, data)
}

// fall lets a party fall, or start.
func (m *model) fall(x api.Step) {
	switch {
	case (x.A == 0 || x.A == 1) && x.Kind == 10:
		m.users[x.A].Fall(m.sides[0], m.sides[1], x.B)
	case x.A == 0 || x.A == 1:
		m.users[x.A].Up()
	case (x.A == 2 || x.A == 3) && x.Kind == 10:
		m.routers[x.A].Fall(m.sides[0], m.sides[1], x.B)
	case x.A == 2 || x.A == 3:
		m.routers[x.A].Up()
	}
}

// include includes one, and looks whether it is forged.
func (m *model) include(side int, at int) {
	many := len(m.sides[side].Events(0))
	m.sides[side].Include(at)
	for _, e := range m.sides[side].Events(many) {
		if e.Tx.Kind < 5 {
			continue
		}
		payload := deal.Payload(e.Tx.Kind-4, deal.Key(e.Tx.Inv), e.Tx.Fee)
		for n, u := range m.users {
			_, ok := mss.Verify(mss.Root("user"+string(rune(n))), payload, e.Tx.Sig)
			if u != nil && ok && !slices.Contains(u.Signed(), string(payload)) {
				m.forged = true
			}
		}
	}
}

// includeAll includes what a fair round does: that is taken whose Nonce is its sender's, who has a coin.
func (m *model) includeAll(side int) {
	for range 40 {
		s := m.sides[side].State()
		place := slices.IndexFunc(m.sides[side].Pool(), func(t api.Tx) bool {
			return t.Nonce == s.Nonces[t.From] && s.Purse[t.From][0] != api.Wide{}
		})
		if place < 0 {
			return
		}
		m.include(side, place)
	}
}

// tick is a tick.
func (m *model) tick() {
	m.ticks++
	m.sides[0].Rise(1)
	m.sides[1].Rise(1)
}

// deliver delivers all that is on its way.
func (m *model) deliver() {
	for {
		l, ok := m.take(0)
		if !ok {
			return
		}
		m.give(l)
	}
}

// fair is a fair round.
func (m *model) fair() {
	m.deliver()
	for n := range 5 {
		m.look(n)
	}
	m.deliver()
	m.includeAll(1)
	m.includeAll(0)
	m.tick()
}

// step is Step, written a second time.
func (m *model) step(x api.Step) {
	switch x.Kind {
	case 1:
		m.tick()
	case 2:
		m.look(x.A)
	case 3:
		if l, ok := m.take(x.A); ok {
			m.give(l)
		}
	case 4:
		m.take(x.A)
	case 5:
		if len(m.mail) > 0 {
			l := m.mail[round(x.A, len(m.mail))]
			m.post(l.To, l.Data)
		}
	case 6:
		if t, err := txs.Read(x.Data); err == api.OK && m.bad(t.From) {
			m.submit(round(x.B, 2), t)
		}
	case 7:
		if 0 <= x.A && x.A < 5 {
			m.post(x.A, x.Data)
		}
	case 8:
		m.include(round(x.B, 2), x.A)
	case 9:
		m.ask(x.A, x.B, x.C)
	case 10, 11:
		m.fall(x)
	case 12:
		if x.A == 0 || x.A == 1 {
			if l := m.users[x.A].Deals(); len(l) > 0 {
				m.users[x.A].Recall(l[round(x.B, len(l))].Ask.Id)
			}
		}
	case 13:
		m.fair()
	}
}

// late is Late, written a second time, out of all that was.
func (m *model) late(n int) bool {
	if n < 0 || n > 3 || m.bad(n) {
		return false
	}
	ahead := 0
	for _, tick := range append(slices.Clone(m.looks[n]), m.ticks) {
		if tick-ahead > m.s.Delay {
			return true
		}
		ahead = tick
	}
	for _, x := range m.sent {
		over := m.ticks
		for _, e := range m.sides[x.side].Events(0) {
			if e.Tx == x.tx {
				over = e.Time - 1000 - x.side*m.s.Skew
			}
		}
		if x.tx.From == n && over-x.tick > m.s.Delay {
			return true
		}
	}
	return false
}

// clash is Clash, written a second time.
func (m *model) clash() bool {
	for _, a := range m.met {
		for _, b := range m.met {
			if a.Kind < 4 || b.Kind < 4 {
				continue
			}
			if a.Inv != b.Inv && deal.Key(a.Inv) == deal.Key(b.Inv) || a.Var != b.Var && deal.Digest(a.Inv, a.Var) == deal.Digest(b.Inv, b.Var) {
				return true
			}
		}
	}
	return false
}

// same tells it, if a world is otherwise than the model.
func (m *model) same(t *testing.T, w *World) bool {
	ok := w.Now() == m.ticks && w.Forged() == m.forged && len(w.mail) == len(m.mail) && (len(m.mail) == 0 || reflect.DeepEqual(w.Mail(), m.mail))
	for side, c := range m.sides {
		ok = ok && reflect.DeepEqual(c.State(), w.Side(side).State()) && slices.Equal(c.Pool(), w.Side(side).Pool())
	}
	for n, u := range m.users {
		got := w.Client(n)
		ok = ok && (u == nil) == (got == nil) && u.Down() == got.Down() && slices.Equal(u.Deals(), got.Deals()) && slices.Equal(u.Signed(), got.Signed())
	}
	for n, r := range m.routers {
		got := w.Router(n)
		ok = ok && (r == nil) == (got == nil) && r.Down() == got.Down() && slices.Equal(r.Bids(), got.Bids()) && slices.Equal(r.Mirrors(), got.Mirrors())
	}
	if c, is := w.at(4).(carrier); is != (m.relay != nil) || is && c.Count() != m.relay.Count() {
		ok = false
	}
	if !ok {
		t.Errorf("setup %v, tick %d: the world is %s\nthe model: forged %t, %d letters", m.s, m.ticks, view(w), m.forged, len(m.mail))
	}
	return ok
}

// sameLate tells it, if others are late than the model says, or events are unlike.
func (m *model) sameLate(t *testing.T, w *World) bool {
	ok := true
	for n := -1; n < 6; n++ {
		if w.Late(n) != m.late(n) {
			t.Errorf("setup %v, tick %d: Late(%d) = %t", m.s, m.ticks, n, w.Late(n))
			ok = false
		}
	}
	for side, c := range m.sides {
		if !slices.Equal(c.Events(0), w.Side(side).Events(0)) {
			t.Errorf("setup %v, tick %d: side %d has other events", m.s, m.ticks, side)
			ok = false
		}
	}
	return ok
}

// routers' seeds, as the model has them.
func TestSeeds(t *testing.T) {
	if bid.Seed(2) != "router\x02" || bid.Seed(3) != "router\x03" || client.Seed(0) != "user\x00" || client.Seed(1) != "user\x01" {
		t.Error("keys have other seeds")
	}
}
