package relay

import (
	"fmt"
	"math/rand"
	"slices"
	"testing"

	"narrows/api"
	"narrows/chain"
	"narrows/mail"
	"narrows/wide"
)

// model is a relayer, written a second time: by octets, by events and what waits alone, and by what is known of who signed what.
type model struct {
	kept  []string
	truth map[act]bool
}

// act is what a release says that was signed.
type act struct {
	inv api.Inv
	fee api.Wide
	sig string
}

// hear is Hear, written a second time.
func (m *model) hear(b []byte) bool {
	x, err := mail.Read(b)
	if err != api.OK || x.Kind != 3 || len(m.kept) == 16 || slices.Contains(m.kept, string(b)) {
		return false
	}
	if slices.Max(x.Fee[:]) == 0 {
		return false
	}
	m.kept = append(m.kept, string(b))
	return true
}

// prepared tells whether events say that a transfer is prepared, for those data.
func prepared(l []api.Event, i api.Inv, v api.Var) bool {
	there := false
	for _, e := range l {
		if e.Code == api.OK && e.Tx.Kind >= 4 && e.Tx.Inv == i {
			there = e.Tx.Kind == 4 && e.Tx.Var == v
		}
	}
	return there
}

// look is Look, written a second time; met counts what is met.
func (m *model) look(c *chain.Chain, met func(what string)) []api.Send {
	used := map[int]bool{}
	var fulfilled []api.Inv
	for _, x := range c.Pool() {
		if x.From == 4 {
			used[x.Nonce] = true
			if x.Kind == 5 {
				fulfilled = append(fulfilled, x.Inv)
			}
		}
	}
	nonce := 0
	for _, e := range c.Events(0) {
		if e.Tx.From == 4 {
			nonce++
		}
	}
	var all []api.Send
	for _, b := range m.kept {
		x, _ := mail.Read([]byte(b))
		switch {
		case !prepared(c.Events(0), x.Inv, x.Var):
			met("not prepared so")
		case c.Time() >= x.Var.Expiry:
			met("past")
		case !m.truth[act{x.Inv, x.Fee, x.Sig}]:
			met("not signed")
		case slices.Contains(fulfilled, x.Inv):
			met("waits")
		default:
			for used[nonce] {
				nonce++
			}
			used[nonce] = true
			all = append(all, api.Send{Side: 1, Tx: api.Tx{From: 4, Nonce: nonce, Kind: 5, Inv: x.Inv, Var: x.Var, Fee: x.Fee, Sig: x.Sig}})
		}
	}
	met(fmt.Sprint("sends ", len(all)))
	return all
}

// play is a random run.
type play struct {
	*town
	m    *model
	rand *rand.Rand
	invs []api.Inv
	vars []api.Var
	all  [][]byte
	seen map[string]int
}

// beginPlay is a run with some transfers, and releases of them, right and wrong ones.
func beginPlay(t *testing.T, r *rand.Rand, seen map[string]int) *play {
	p := &play{town: begin(t), m: &model{truth: map[act]bool{}}, rand: r, seen: seen}
	for n := range 5 + r.Intn(6) {
		i := transfer(fmt.Sprint(n))
		i.Router, i.Recv, i.To = 2+n%2, r.Intn(2), r.Intn(8)
		p.invs = append(p.invs, i)
		p.vars = append(p.vars, until(uint64(1+r.Intn(60)), 1005+r.Intn(40)))
	}
	for range 24 {
		p.add(t)
	}
	return p
}

// add puts a release to those that may be heard.
func (p *play) add(t *testing.T) {
	place := p.rand.Intn(len(p.invs))
	i, v, fee, done, seed, whole := p.invs[place], p.vars[place], wide.Of(uint64(1+p.rand.Intn(3))), 1, "user", true
	signed, asked := i, fee
	switch p.rand.Intn(16) {
	case 0:
		done = 2
	case 1:
		seed = "other"
	case 2:
		signed = p.invs[(place+1)%len(p.invs)]
	case 3:
		asked = wide.Of(9)
	case 4:
		whole = false
	case 5:
		v.Amount[0]++
	case 6:
		v.Expiry--
	case 7:
		fee, asked = api.Wide{}, api.Wide{}
	}
	sig := signs(seed, p.rand.Intn(8), signed, done, asked)
	if !whole {
		sig = sig[:140] + "other"
	}
	b := put(t, api.Message{Kind: 3, Inv: i, Var: v, Fee: fee, Sig: sig})
	p.m.truth[act{i, fee, sig}] = done == 1 && seed == "user" && signed == i && asked == fee && whole
	p.all = append(p.all, b)
}

// others lets another account do something with a transfer, or the relayer something else.
func (p *play) others() {
	place := p.rand.Intn(len(p.invs))
	x := api.Tx{From: p.rand.Intn(8), Kind: 4 + p.rand.Intn(3), Inv: p.invs[place], Var: p.vars[place]}
	if p.rand.Intn(2) == 0 {
		x.From, x.Kind = x.Inv.Router, 4
	}
	switch x.Kind {
	case 5:
		x.Fee = wide.Of(uint64(p.rand.Intn(3)))
		x.Sig = signs("user", 7, x.Inv, 1, x.Fee)
	case 6:
		x.Sig = signs("user", 6, x.Inv, 2, x.Fee)
	}
	if p.rand.Intn(6) == 0 {
		x = api.Tx{From: 4, Kind: 1, Amount: wide.Of(1), Inv: api.Inv{To: 4}}
	}
	x.Nonce = p.t.Next(x.From)
	if p.rand.Intn(6) == 0 {
		x.Nonce += p.rand.Intn(3)
	}
	p.t.Submit(x)
}

// look lets both look; some of what is sent is submitted.
func (p *play) look(t *testing.T) {
	want := p.m.look(p.t, func(what string) { p.seen[what]++ })
	if got := p.r.Look(p.t); !slices.Equal(got, want) {
		t.Fatalf("Look() =\n%#v; want\n%#v", got, want)
	}
	for _, x := range want {
		if p.rand.Intn(5) == 0 {
			p.t.Submit(x.Tx)
		}
	}
}

// step does one thing.
func (p *play) step(t *testing.T) {
	switch n := p.rand.Intn(20); {
	case n < 4:
		b := p.all[p.rand.Intn(len(p.all))]
		if n == 0 {
			b = slices.Clone(b)
			b[p.rand.Intn(len(b))] ^= 1 << p.rand.Intn(8)
		}
		got, want := p.r.Hear(b), p.m.hear(b)
		if got != want || p.r.Count() != len(p.m.kept) {
			t.Fatalf("Hear() = %t, want %t; Count() = %d", got, want, p.r.Count())
		}
		p.seen[fmt.Sprint("hear ", n == 0, " ", got)]++
	case n < 8:
		p.others()
	case n < 14:
		if p.t.Include(p.rand.Intn(128)) {
			l := p.t.Events(0)
			p.seen[fmt.Sprint("kind ", l[len(l)-1].Tx.Kind, " ", l[len(l)-1].Code == api.OK, " ", l[len(l)-1].Tx.From == 4)]++
		}
	case n == 14:
		p.t.Rise(p.rand.Intn(5))
	}
	p.look(t)
}

// P22.1: whatever happens, all is as the second writing says.
func TestAtRandom(t *testing.T) {
	r := rand.New(rand.NewSource(22))
	seen := map[string]int{}
	for range 150 {
		p := beginPlay(t, r, seen)
		for range 100 {
			p.step(t)
		}
	}
	for _, what := range []string{"hear false true", "hear false false", "hear true true", "hear true false", "kind 4 true false", "kind 4 false false", "kind 5 true true", "kind 5 false true", "kind 5 true false", "kind 6 true false",
		"kind 1 true true", "not prepared so", "past", "not signed", "waits", "sends 0", "sends 1", "sends 2", "sends 3"} {
		if seen[what] < 10 {
			t.Errorf("%s: %d times", what, seen[what])
		}
	}
}
