package world

import (
	"narrows/api"
	"narrows/blob"
	"narrows/mail"
	"narrows/net"
	"narrows/party"
	"narrows/txs"
	"narrows/wide"
)

// The kinds of steps.
const (
	aTick = iota + 1
	aLook
	delivered
	lost
	twinned
	submitted
	told
	included
	asked
	aFall
	aStart
	recalled
	fairRound
)

const (
	// apart is how far above its own number the account is for which a user asks.
	apart = 5

	// idOctets is how many octets each of the two numbers of an Id has.
	idOctets = 2
)

// Step lets one thing happen; nothing, if there is no step of its kind.
func (w *World) Step(x api.Step) {
	if !w.there() {
		return
	}
	switch x.Kind {
	case aTick:
		w.tick()
	case aLook:
		w.look(x.A)
	case delivered:
		w.deliver(x.A)
	case lost:
		_, w.mail, _ = net.Take(w.mail, x.A)
	case twinned:
		w.mail = net.Twin(w.mail, x.A)
	case submitted:
		w.inject(odd(x.B), x.Data)
	case told:
		w.tell(x.A, x.Data)
	case included:
		w.sides[odd(x.B)].Include(x.A)
	case asked:
		w.ask(x.A, x.B, odd(x.C))
	case aFall, aStart:
		w.power(x)
	case recalled:
		w.recall(x.A, x.B)
	case fairRound:
		w.round()
	}
	w.settle()
}

// odd is 1, if n is odd, also below 0; else 0.
func odd(n int) int {
	return n & 1
}

// tick lets a tick go by on both sides.
func (w *World) tick() {
	// What was included ahead of the tick waits no more.
	w.settle()
	for _, side := range w.sides {
		side.Rise(1)
	}
	w.now++
	w.markLate(w.now, w.setup.Delay)
}

// look lets a party look: its letters are on their way, and what it sends is submitted.
func (w *World) look(n int) {
	m := w.at(n)
	if m == nil {
		return
	}
	posted, sends := m.look(w.Side(party.Sending), w.Side(party.Receiving))
	for _, l := range posted {
		w.mail = net.Post(w.mail, l.To, l.Data)
	}
	for _, s := range sends {
		w.submit(s)
	}
	// It is no look, if the party is down, or is so now for want of room: it sends nothing.
	if k, ok := m.(keeper); ok && !k.Down() {
		w.looked[n] = w.now
		w.expect(sends, w.now)
	}
}

// submit lets a transaction wait on a side.
func (w *World) submit(s api.Send) {
	w.sides[s.Side].Submit(s.Tx)
	w.meet(s.Tx)
}

// deliver gives what stands at that place of the mail to whom it is for.
func (w *World) deliver(at int) {
	m, others, ok := net.Take(w.mail, at)
	w.mail = others
	if ok {
		w.give(m)
	}
}

// give lets a letter be heard; it is lost on a party that is corrupted, or down.
func (w *World) give(l api.Mail) {
	if m := w.at(l.To); m != nil {
		m.hear(l.Data, w.Side(party.Sending).Time())
	}
}

// inject submits a transaction of an account for which nobody looks.
func (w *World) inject(side int, data []byte) {
	t, err := txs.Read(data)
	if err == api.OK && (t.From >= members || w.setup.corrupted(t.From)) {
		w.submit(api.Send{Side: side, Tx: t})
	}
}

// tell posts data to a party.
func (w *World) tell(n int, data []byte) {
	if within(n, 0, members-1) {
		w.mail = net.Post(w.mail, n, data)
	}
}

// ask lets a user ask for an amount of an asset, and tells both routers.
func (w *World) ask(n int, amount int, asset int) {
	c := w.Client(n)
	if c == nil || amount <= 0 {
		return
	}
	a := api.Ask{User: n, Send: asset, Recv: asset, To: n + apart, Amount: wide.Of(uint64(amount)), Id: id(n, w.asks[n]+1)}
	m, err := c.Ask(a, w.Side(party.Sending).Time())
	if err != api.OK {
		return
	}
	w.asks[n]++
	data, _ := mail.Put(m)
	for to := firstRouter; to < relayer; to++ {
		w.tell(to, data)
	}
}

// id is the name of a user's ask of that number.
func id(n int, number int) string {
	return string(blob.Cat(blob.Num(n, idOctets), blob.Num(number, idOctets)))
}

// power lets the power of a user or router go while it looks, or come back.
func (w *World) power(x api.Step) {
	k, ok := w.at(x.A).(keeper)
	if !ok {
		return
	}
	if x.Kind == aFall {
		k.Fall(w.Side(party.Sending), w.Side(party.Receiving), x.B)
	} else {
		k.Up()
	}
}

// recall lets a user recall the deal at that place, counted round.
func (w *World) recall(n int, at int) {
	c := w.Client(n)
	if deals := c.Deals(); len(deals) > 0 {
		c.Recall(deals[(at%len(deals)+len(deals))%len(deals)].Ask.Id)
	}
}

// round is a fair round: all get what is for them, look, and what they send is included, within a tick.
func (w *World) round() {
	w.deliverAll()
	for n := range w.members {
		w.look(n)
	}
	w.deliverAll()
	for _, side := range w.sides {
		side.includeAll()
	}
	w.tick()
}

// deliverAll gives all that is on its way to whom it is for, in order.
func (w *World) deliverAll() {
	letters := w.mail
	w.mail = nil
	for _, l := range letters {
		w.give(l)
	}
}
