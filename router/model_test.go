package router

import (
	"fmt"
	"math/big"
	"math/rand"
	"slices"
	"testing"

	"narrows/api"
	"narrows/bid"
	"narrows/chain"
	"narrows/mail"
	"narrows/mss"
	"narrows/wide"
)

// note is a record of the model: how many octets its frame has, and what it tells.
type note struct {
	octets int
	bid    *api.Bid
	mirror *Mirror
}

// model is a router, written a second time: by big numbers, by events alone, and with notes for octets.
type model struct {
	router, d, room int
	down            bool
	heard           []api.Ask
	sure            []note
	bids            []api.Bid
	mirrors         []Mirror
	sent            map[api.Inv]int
}

// beginModel is a model of what New makes.
func beginModel(router int, d int, room int) *model {
	return &model{router: router, d: min(max(d, 1), 4), room: min(max(room, 0), 1<<16), sent: map[api.Inv]int{}}
}

// tell takes a note in.
func (m *model) tell(n note) {
	if n.bid != nil {
		m.bids = append(m.bids, *n.bid)
	} else {
		m.mirrors = append(m.mirrors, *n.mirror)
	}
}

// size is how many octets all notes have.
func size(l []note) int {
	n := 0
	for _, x := range l {
		n += x.octets
	}
	return n
}

// rest is what is left behind a fall: what was sure, and those of l that lasted.
func (m *model) rest(l []note) {
	m.sure = append(m.sure, l...)
	m.heard, m.bids, m.mirrors, m.sent, m.down = nil, nil, nil, map[api.Inv]int{}, true
	for _, n := range m.sure {
		m.tell(n)
	}
}

// keep is whether there is room; else it is down.
func (m *model) keep(l []note) bool {
	if size(m.sure)+size(l) > m.room {
		m.rest(nil)
		return false
	}
	m.sure = append(m.sure, l...)
	return true
}

// fall is Fall, written a second time; l is what a look came to.
func (m *model) fall(l []note, keep int) {
	if size(m.sure)+size(l) > m.room {
		l = nil
	}
	whole := 0
	for whole < len(l) && size(l[:whole+1]) <= keep {
		whole++
	}
	m.rest(l[:whole])
}

// hear is Hear, written a second time.
func (m *model) hear(b []byte) bool {
	x, err := mail.Read(b)
	if m.down || err != api.OK || x.Kind != 1 || len(m.heard) == 16 || slices.Contains(m.heard, x.Ask) {
		return false
	}
	m.heard = append(m.heard, x.Ask)
	return true
}

// bigOf and wideOf go from wide numbers to those of the library, and back.
func bigOf(a api.Wide) *big.Int {
	n := new(big.Int)
	for word := 3; word >= 0; word-- {
		n.Lsh(n, 64).Or(n, new(big.Int).SetUint64(a[word]))
	}
	return n
}

func wideOf(n *big.Int) api.Wide {
	var a api.Wide
	for word := range a {
		a[word] = new(big.Int).Rsh(n, uint(64*word)).Uint64()
	}
	return a
}

// offered is what a router offers of an amount; nil, if nothing.
func offered(router int, amount api.Wide) *big.Int {
	product := new(big.Int).Mul(bigOf(amount), big.NewInt(map[int]int64{2: 30, 3: 45}[router]))
	if product.BitLen() > 256 {
		return nil
	}
	return new(big.Int).Sub(bigOf(amount), product.Div(product, big.NewInt(10000)))
}

// fits tells whether a transfer, with what the sending side has, is that of an ask.
func fits(i api.Inv, v api.Var, a api.Ask) bool {
	return i.User == a.User && i.Send == a.Send && i.Recv == a.Recv && i.To == a.To && i.Id == a.Id && v.Amount == a.Amount
}

// signs is the bid with the signature of the router's i-th leaf.
func signs(b api.Bid, leaf int) api.Bid {
	sig, _, err := mss.Sign(api.Key{Seed: "router" + string(rune(b.Router)), Next: leaf}, bid.Text(b))
	if err != api.OK {
		panic("there is no such leaf, or bid")
	}
	b.Sig = sig
	return b
}

// became tells of a transfer what events say: its status, and what fulfilled it.
func became(l []api.Event, i api.Inv) (int, api.Tx) {
	status, by := 0, api.Tx{}
	for _, e := range l {
		if e.Code == api.OK && e.Tx.Kind >= 4 && e.Tx.Inv == i {
			status = e.Tx.Kind - 3
			if status == 2 {
				by = e.Tx
			}
		}
	}
	return status, by
}

// post is what goes out in a look, and what is noted.
type post struct {
	router   int
	chains   [2]*chain.Chain
	used     [2]map[int]bool
	messages []api.Message
	sends    []api.Send
	notes    []note
}

// waits tells whether one of the router's waits.
func (o *post) waits(side int, i api.Inv, kind int) bool {
	return slices.ContainsFunc(o.chains[side].Pool(), func(t api.Tx) bool { return t.From == o.router && t.Kind == kind && t.Inv == i })
}

// send sends to a side with the least Nonce that is not used.
func (o *post) send(side int, t api.Tx) {
	if o.used[side] == nil {
		o.used[side] = map[int]bool{}
		for _, x := range o.chains[side].Pool() {
			if x.From == o.router {
				o.used[side][x.Nonce] = true
			}
		}
	}
	t.From = o.router
	for _, e := range o.chains[side].Events(0) {
		if e.Tx.From == o.router {
			t.Nonce++
		}
	}
	for o.used[side][t.Nonce] {
		t.Nonce++
	}
	o.used[side][t.Nonce] = true
	o.sends = append(o.sends, api.Send{Side: side, Tx: t})
}

// look is a look, written a second time.
func (m *model) look(s *chain.Chain, t *chain.Chain) *post {
	o := &post{router: m.router, chains: [2]*chain.Chain{s, t}}
	for _, a := range m.heard {
		m.answer(o, a)
	}
	for _, e := range s.Events(0) {
		if e.Code == api.OK && e.Tx.Kind == 4 && e.Tx.Inv.Router == m.router {
			m.meet(o, e.Tx.Inv, e.Tx.Var)
		}
	}
	for _, x := range m.mirrors {
		m.each(o, x)
	}
	return o
}

// answer bids for an ask, if it may.
func (m *model) answer(o *post, a api.Ask) {
	now := o.chains[0].Time()
	sum := offered(m.router, a.Amount)
	if len(m.bids) == 8 || sum == nil || now+8*m.d+8 > 1<<40 {
		return
	}
	b := api.Bid{Router: m.router, Ask: a, Amount: wideOf(sum), Until: now + 8*m.d + 8}
	for _, old := range m.bids {
		if old.Ask == a {
			return
		}
		taken := slices.ContainsFunc(m.mirrors, func(x Mirror) bool { return fits(x.Inv, x.Far, old.Ask) })
		if old.Ask.Recv == a.Recv && !taken && old.Until >= now {
			sum.Add(sum, bigOf(old.Amount))
		}
	}
	if sum.Cmp(bigOf(o.chains[1].State().Vault[m.router][a.Recv])) > 0 {
		return
	}
	b = signs(b, len(m.bids))
	n := note{octets: 108 + len(a.Id), bid: &b}
	m.tell(n)
	o.notes = append(o.notes, n)
	o.messages = append(o.messages, api.Message{Kind: 2, Bid: b})
}

// meet mirrors what was prepared, if it may.
func (m *model) meet(o *post, i api.Inv, v api.Var) {
	s, t := o.chains[0], o.chains[1]
	place := slices.IndexFunc(m.bids, func(b api.Bid) bool { return fits(i, v, b.Ask) })
	near, _ := became(s.Events(0), i)
	far, _ := became(t.Events(0), i)
	if place < 0 || near != 1 || far != 0 || v.Expiry < s.Time()+11*m.d+6 || slices.ContainsFunc(m.mirrors, func(x Mirror) bool { return x.Inv == i }) {
		return
	}
	amount := m.bids[place].Amount
	if bigOf(t.State().Vault[m.router][i.Recv]).Cmp(bigOf(amount)) < 0 {
		return
	}
	for _, c := range o.chains {
		if bigOf(c.State().Purse[m.router][0]).Cmp(big.NewInt(3)) <= 0 {
			return
		}
	}
	n := note{octets: 40, mirror: &Mirror{Inv: i, Var: api.Var{Amount: amount, Expiry: t.Time() + 8*m.d + 4}, Far: v, Offer: amount}}
	m.tell(n)
	o.notes = append(o.notes, n)
}

// each is what a look does with a mirror.
func (m *model) each(o *post, x Mirror) {
	near, _ := became(o.chains[0].Events(0), x.Inv)
	far, by := became(o.chains[1].Events(0), x.Inv)
	past := o.chains[1].Time() >= x.Var.Expiry
	if far == 0 && !past && m.sent[x.Inv] < 2 && !o.waits(1, x.Inv, 4) {
		m.sent[x.Inv]++
		o.send(1, api.Tx{Kind: 4, Inv: x.Inv, Var: x.Var})
	}
	if far == 2 && near == 1 && !o.waits(0, x.Inv, 5) {
		o.send(0, api.Tx{Kind: 5, Inv: x.Inv, Var: x.Far, Fee: by.Fee, Sig: by.Sig})
	}
	if far == 1 && past && !o.waits(1, x.Inv, 6) {
		o.send(1, api.Tx{Kind: 6, Inv: x.Inv, Var: x.Var})
	}
}

// play is a router, its model, both sides, and what its leaves ever signed.
type play struct {
	*town
	m     *model
	rand  *rand.Rand
	by    map[int]string
	ahead map[api.Inv]int
	seen  map[string]int
}

// pick is one of l.
func pick[T any](r *rand.Rand, l ...T) T {
	return l[r.Intn(len(l))]
}

// same tells it, if the router answers otherwise than the model.
func (p *play) same(t *testing.T, what string) {
	t.Helper()
	if got := p.r.Down(); got != p.m.down {
		t.Fatalf("%s: Down() = %t", what, got)
	}
	if got := p.r.Bids(); !slices.Equal(got, p.m.bids) {
		t.Fatalf("%s: Bids() =\n%#v; want\n%#v", what, got, p.m.bids)
	}
	if got := p.r.Mirrors(); !slices.Equal(got, p.m.mirrors) {
		t.Fatalf("%s: Mirrors() =\n%#v; want\n%#v", what, got, p.m.mirrors)
	}
}

// matches tells it, if what is prepared on the receiving side is not what a bid says, of a transfer that is there on the sending side, which lasts longer (P21.2).
func (p *play) matches(t *testing.T, x api.Tx) {
	t.Helper()
	first := slices.IndexFunc(p.s.Events(0), func(e api.Event) bool { return e.Code == api.OK && e.Tx.Kind == 4 && e.Tx.Inv == x.Inv })
	if first < 0 {
		t.Fatalf("nothing of it is there: %#v", x)
	}
	there := p.s.Events(0)[first].Tx
	if !slices.ContainsFunc(p.r.Bids(), func(b api.Bid) bool {
		return b.Router == x.Inv.Router && fits(x.Inv, there.Var, b.Ask) && b.Amount == x.Var.Amount
	}) {
		t.Fatalf("no bid says that: %#v", x)
	}
	if x.Var.Expiry-p.ahead[x.Inv]+3*p.m.d+2 > there.Var.Expiry {
		t.Fatalf("it lasts too long: %#v, %#v", x, there)
	}
}

// notes marks how far the receiving side's time was ahead when something was mirrored.
func (p *play) notes(l []note) {
	for _, n := range l {
		if n.mirror != nil {
			p.seen["mirror"]++
			p.ahead[n.mirror.Inv] = p.t.Time() - p.s.Time()
		}
	}
}

// look lets both look, and submits most of what is sent.
func (p *play) look(t *testing.T) {
	messages, sends := p.r.Look(p.s, p.t)
	var want post
	if !p.m.down {
		o := p.m.look(p.s, p.t)
		if p.m.keep(o.notes) {
			want = *o
		} else {
			p.seen["no room"]++
		}
	}
	if !slices.Equal(messages, want.messages) || !slices.Equal(sends, want.sends) {
		t.Fatalf("Look() =\n%#v\n%#v; want\n%#v\n%#v", messages, sends, want.messages, want.sends)
	}
	p.notes(want.notes)
	for _, m := range messages {
		p.seen["bid"]++
		p.once(t, m.Bid)
	}
	for _, x := range sends {
		p.seen[fmt.Sprintf("side %d kind %d", x.Side, x.Tx.Kind)]++
		if x.Tx.Kind == 4 {
			p.matches(t, x.Tx)
		}
		if p.rand.Intn(5) > 0 {
			p.side(x.Side).Submit(x.Tx)
		}
	}
	if len(sends) > 1 {
		p.seen["two at once"]++
	}
}

// once tells it, if a bid is not valid, or its leaf signed another one that went out.
func (p *play) once(t *testing.T, b api.Bid) {
	t.Helper()
	leaf, ok := mss.Verify(rootOf(bid.Seed(b.Router)), bid.Text(b), b.Sig)
	if other, is := p.by[leaf]; !ok || is && other != string(bid.Text(b)) {
		t.Fatalf("leaf %d signed %#v", leaf, b)
	}
	p.by[leaf] = string(bid.Text(b))
}

// any is an ask, maybe heard ahead.
func (p *play) any() api.Ask {
	a := ask(p.rand.Intn(2), pick(p.rand, "a", "b", "c", "d", "e", "the sixteenth id"), pick[uint64](p.rand, 1, 60, 150, 401, 500))
	a.Send, a.Recv = p.rand.Intn(2), p.rand.Intn(2)
	if p.rand.Intn(40) == 0 {
		a.Amount = pick(p.rand, api.Wide{0, 0, 0, 1 << 62}, api.Wide{0, 1})
	}
	return a
}

// hear lets both hear an ask, or something else.
func (p *play) hear(t *testing.T) {
	m := api.Message{Kind: 1, Ask: p.any()}
	if p.rand.Intn(9) == 0 && len(p.m.bids) > 0 {
		m = api.Message{Kind: 2, Bid: p.m.bids[0]}
	}
	octets := put(t, m)
	if p.rand.Intn(15) == 0 {
		octets[p.rand.Intn(len(octets))]++
	}
	got, want := p.r.Hear(octets), p.m.hear(octets)
	if got != want {
		t.Fatalf("Hear(%#v) = %t", m, got)
	}
	p.seen[fmt.Sprint("hear ", got)]++
}

// take lets a user take a bid, or nearly so.
func (p *play) take() {
	b := p.m.bids[p.rand.Intn(len(p.m.bids))]
	i, v := transferOf(b, rootOf("user"+string(rune(b.Ask.User)))), api.Var{Amount: b.Ask.Amount, Expiry: p.s.Time() + 16*p.m.d + 12 - p.rand.Intn(4)}
	switch p.rand.Intn(24) {
	case 0:
		i.To = 1
	case 1:
		i.Id += "x"
	case 2:
		i.Send = 1 - i.Send
	case 3:
		i.Recv = 1 - i.Recv
	case 4:
		i.User = 1 - i.User
	case 5:
		i.Router = 5 - i.Router
	case 6:
		v.Amount = wide.Of(59)
	case 7:
		i.Root = rootOf("router\x02")
	case 8:
		v.Expiry = p.s.Time() + 11*p.m.d + 4 + p.rand.Intn(4)
	}
	if len(i.Id) <= 16 {
		p.put(0, api.Tx{From: i.User, Kind: 4, Inv: i, Var: v})
	}
}

// others lets users, the other router and the router's own hand do something with a mirror.
func (p *play) others() {
	x := p.m.mirrors[p.rand.Intn(len(p.m.mirrors))]
	switch p.rand.Intn(6) {
	case 0:
		p.put(0, api.Tx{From: x.Inv.Router, Kind: 6, Inv: x.Inv, Var: x.Far})
	case 1:
		p.put(1, api.Tx{From: 6, Kind: 6, Inv: x.Inv, Var: x.Var, Sig: signature(x.Inv, 2, 1, p.rand.Intn(8))})
	case 2:
		p.side(p.rand.Intn(2)).Submit(api.Tx{From: p.m.router, Nonce: p.t.Next(p.m.router) + p.rand.Intn(2), Kind: 4 + p.rand.Intn(3), Inv: x.Inv, Var: x.Var, Sig: "none"})
	default:
		fee := uint64(p.rand.Intn(2))
		p.put(1, api.Tx{From: pick(p.rand, 4, x.Inv.User), Kind: 5, Inv: x.Inv, Var: x.Var, Fee: wide.Of(fee), Sig: signature(x.Inv, 1, fee, p.rand.Intn(8))})
	}
}

// purses leaves the router few coins on a side, or gives it some, and users some, too.
func (p *play) purses() {
	side := p.rand.Intn(2)
	have, _ := wide.Small(p.side(side).State().Purse.Of(p.m.router, 0))
	leave := uint64(2 + p.rand.Intn(4))
	if have > leave+1 && p.rand.Intn(2) == 0 {
		p.put(side, api.Tx{From: p.m.router, Kind: 1, Amount: wide.Of(have - leave - 1), Inv: api.Inv{To: 7}})
		return
	}
	p.put(side, api.Tx{From: 7, Kind: 1, Amount: wide.Of(60), Inv: api.Inv{To: p.m.router}})
	p.put(0, api.Tx{From: 5 + p.rand.Intn(3), Kind: 1, Asset: p.rand.Intn(2), Amount: wide.Of(150), Inv: api.Inv{To: p.rand.Intn(2)}})
}

// vaults changes what the router's vault has.
func (p *play) vaults() {
	asset := p.rand.Intn(2)
	if p.rand.Intn(3) == 0 {
		p.put(1, api.Tx{From: p.m.router, Kind: 3, Asset: asset, Amount: wide.Of(100), Inv: api.Inv{}})
	} else {
		p.put(1, api.Tx{From: 6, Kind: 2, Asset: asset, Amount: wide.Of(80), Inv: api.Inv{Router: p.m.router}})
	}
}

// falls lets both fall.
func (p *play) falls() {
	keep := pick(p.rand, -1, 0, 5, p.rand.Intn(300), p.rand.Intn(300), 1<<16)
	p.r.Fall(p.s, p.t, keep)
	if !p.m.down {
		o := p.m.look(p.s, p.t)
		p.notes(o.notes)
		was := len(p.m.sure)
		p.m.fall(o.notes, keep)
		p.seen["fall"]++
		p.seen["lasted"] += len(p.m.sure) - was
		p.seen["gone"] += len(o.notes) - len(p.m.sure) + was
	}
}

// step does one thing.
func (p *play) step(t *testing.T) {
	switch n := p.rand.Intn(60); {
	case n < 6:
		p.hear(t)
	case n < 20:
		p.look(t)
	case n < 28 && len(p.m.bids) > 0:
		p.take()
	case n < 36 && len(p.m.mirrors) > 0:
		p.others()
	case n < 46:
		include(p.side(n % 2))
	case n < 51:
		p.s.Rise(p.rand.Intn(3))
		p.t.Rise(p.rand.Intn(3))
	case n == 51:
		p.t.Rise(p.rand.Intn(15))
	case n == 52:
		p.purses()
	case n == 53:
		p.vaults()
	case n == 54:
		p.falls()
	case n < 58:
		if err := p.r.Up(); err == api.OK != p.m.down || err != api.OK && err != api.ErrState {
			t.Fatalf("Up() = %d", err)
		}
		p.m.down = false
	}
}

// P21.1, P21.2: whatever happens, all is as the second writing says, no leaf signs two unlike bids, and what is prepared is what a bid says.
func TestAtRandom(t *testing.T) {
	r := rand.New(rand.NewSource(21))
	seen := map[string]int{}
	for n := range 150 {
		router, d, room := 2+n%2, n%6, pick(r, 1<<16, 1<<16, 200+r.Intn(900))
		p := &play{town: begin(t, router, d, room), m: beginModel(router, d, room), rand: r, by: map[int]string{}, ahead: map[api.Inv]int{}, seen: seen}
		for range 300 {
			p.step(t)
			p.same(t, fmt.Sprint("run ", n))
		}
		if len(p.m.bids) == 8 {
			seen["no leaf"]++
		}
	}
	for _, what := range []string{"bid", "mirror", "no room", "no leaf", "side 0 kind 5", "side 1 kind 4", "side 1 kind 6", "two at once", "hear true", "hear false", "fall", "lasted", "gone"} {
		if seen[what] < 10 {
			t.Errorf("%s: %d times", what, seen[what])
		}
	}
}
