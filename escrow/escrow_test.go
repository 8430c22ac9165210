package escrow

import (
	"fmt"
	"math"
	"math/big"
	"math/rand"
	"slices"
	"testing"

	"narrows/api"
	"narrows/deal"
	"narrows/mss"
	"narrows/purse"
	"narrows/txs"
)

// top is the greatest number that a word can be.
const top = uint64(math.MaxUint64)

// most is the greatest wide number, less n.
func most(n uint64) api.Wide {
	return api.Wide{top - n, top, top, top}
}

// bigOf and wideOf go from wide numbers to those of the library, and back.
func bigOf(a api.Wide) *big.Int {
	n := new(big.Int)
	for word := 3; word >= 0; word-- {
		n.Lsh(n, 64).Or(n, new(big.Int).SetUint64(a[word]))
	}
	return n
}

func wideOf(n *big.Int) api.Wide {
	var a api.Wide
	for word := range a {
		a[word] = new(big.Int).Rsh(n, uint(64*word)).Uint64()
	}
	return a
}

// cell is where something may be: a purse, a vault, what is held, what is burnt.
type cell struct {
	kind    string
	account int
	asset   int
}

// change is what goes into a cell, or out of it (below 0); and the error, if there is too little.
type change struct {
	where cell
	n     *big.Int
	err   api.Errno
}

// rule is something that may not be, and its error.
type rule struct {
	wrong bool
	err   api.Errno
}

// at is where a state keeps a cell.
func at(s *State, c cell) *api.Wide {
	switch c.kind {
	case "purse":
		return &s.Purse[c.account][c.asset]
	case "vault":
		return &s.Vault[c.account][c.asset]
	case "held":
		return &s.Held[c.asset]
	}
	return &s.Burnt
}

// firstLock is the first lock with that key, none if there is none.
func firstLock(s State, key string) *Lock {
	for place := range s.Locks {
		if s.Locks[place].Key == key {
			return &s.Locks[place]
		}
	}
	return nil
}

// rulesOf are the chapter's rules for a transaction that was taken, in its order, written a second time.
func rulesOf(s State, t api.Tx) []rule {
	i, v := t.Inv, t.Var
	lock := firstLock(s, deal.Key(i))
	router := t.From == 2 || t.From == 3
	below := s.Time < v.Expiry
	verified := func(act int) bool {
		_, ok := mss.Verify(i.Root, deal.Payload(act, deal.Key(i), t.Fee), t.Sig)
		return ok
	}
	closed := []rule{
		{lock == nil || lock.Status != 1, api.ErrStatus},
		{lock != nil && lock.Digest != deal.Digest(i, v), api.ErrDigest},
	}
	switch t.Kind {
	case 3:
		return []rule{{!router, api.ErrSender}}
	case 4:
		sender := []int{i.User, i.Router}[s.Side]
		return []rule{
			{lock != nil, api.ErrStatus},
			{v.Expiry <= s.Time || v.Expiry > s.Time+1024, api.ErrExpiry},
			{t.From != sender, api.ErrSender},
		}
	case 5:
		return append(closed,
			rule{!below, api.ErrExpiry},
			rule{bigOf(t.Fee).Cmp(bigOf(v.Amount)) > 0, api.ErrAmount},
			rule{!verified(1), api.ErrSig})
	case 6:
		if s.Side == 0 {
			return append(closed, rule{below && t.From != i.Router, api.ErrSender})
		}
		return append(closed, rule{below && !verified(2), api.ErrSig})
	}
	return nil
}

// changesOf is what goes where, in the chapter's order, written a second time.
func changesOf(s State, t api.Tx) []change {
	i := t.Inv
	put := func(kind string, account int, asset int, n *big.Int) change {
		return change{cell{kind, account, asset}, n, api.ErrOverflow}
	}
	out := func(kind string, account int, asset int, n *big.Int, err api.Errno) change {
		return change{cell{kind, account, asset}, new(big.Int).Neg(n), err}
	}
	n, all, fee := bigOf(t.Amount), bigOf(t.Var.Amount), bigOf(t.Fee)
	rest := new(big.Int).Sub(all, fee)
	switch {
	case t.Kind == 1:
		return []change{out("purse", t.From, t.Asset, n, api.ErrFunds), put("purse", i.To, t.Asset, n)}
	case t.Kind == 2:
		return []change{out("purse", t.From, t.Asset, n, api.ErrFunds), put("vault", i.Router, t.Asset, n), put("held", 0, t.Asset, n)}
	case t.Kind == 3:
		return []change{out("vault", t.From, t.Asset, n, api.ErrVault), put("purse", t.From, t.Asset, n), out("held", 0, t.Asset, n, api.ErrOverflow)}
	case t.Kind == 4 && s.Side == 0:
		return []change{out("purse", t.From, i.Send, all, api.ErrFunds), put("held", 0, i.Send, all)}
	case t.Kind == 4:
		return []change{out("vault", i.Router, i.Recv, all, api.ErrVault)}
	case t.Kind == 5 && s.Side == 0:
		return []change{put("vault", i.Router, i.Send, all)}
	case t.Kind == 5:
		return []change{put("purse", i.To, i.Recv, rest), put("purse", t.From, i.Recv, fee), out("held", 0, i.Recv, all, api.ErrOverflow)}
	case s.Side == 0:
		return []change{put("purse", i.User, i.Send, all), out("held", 0, i.Send, all, api.ErrOverflow)}
	}
	return []change{put("vault", i.Router, i.Recv, all)}
}

// apply makes all changes, one behind the other, up to the first error.
func apply(s *State, l []change) api.Errno {
	limit := new(big.Int).Lsh(big.NewInt(1), 256)
	for _, c := range l {
		sum := new(big.Int).Add(bigOf(*at(s, c.where)), c.n)
		if sum.Sign() < 0 || sum.Cmp(limit) >= 0 {
			return c.err
		}
		*at(s, c.where) = wideOf(sum)
	}
	return api.OK
}

// cloned is the state in memory of its own.
func cloned(s State) State {
	s.Locks = slices.Clone(s.Locks)
	return s
}

// second is Apply, written a second time.
func second(s State, t api.Tx) (State, api.Errno, bool) {
	if err := txs.Check(t); err != api.OK {
		return s, err, false
	}
	if s.Nonces[t.From] != t.Nonce {
		return s, api.ErrNonce, false
	}
	paid := cloned(s)
	one := big.NewInt(1)
	coin := []change{{cell{"purse", t.From, 0}, big.NewInt(-1), api.ErrFee}, {cell{"burnt", 0, 0}, one, api.ErrFee}}
	if err := apply(&paid, coin); err != api.OK {
		return s, err, false
	}
	paid.Nonces[t.From] = t.Nonce + 1
	for _, r := range rulesOf(paid, t) {
		if r.wrong {
			return paid, r.err, true
		}
	}
	done := cloned(paid)
	if err := apply(&done, changesOf(paid, t)); err != api.OK {
		return paid, err, true
	}
	if t.Kind == 4 {
		done.Locks = append(done.Locks, Lock{deal.Key(t.Inv), deal.Digest(t.Inv, t.Var), 1})
	}
	if t.Kind > 4 {
		firstLock(done, deal.Key(t.Inv)).Status = t.Kind - 3
	}
	return done, api.OK, true
}

// same tells whether two states are alike.
func same(a State, b State) bool {
	locks := slices.Equal(a.Locks, b.Locks)
	return locks && a.Side == b.Side && a.Time == b.Time && a.Purse == b.Purse && a.Vault == b.Vault && a.Nonces == b.Nonces && a.Held == b.Held && a.Burnt == b.Burnt
}

// is tells it, if Apply answers otherwise than the second writing; the state behind it, and what it reverts with.
func is(t *testing.T, what string, s State, x api.Tx) (State, api.Errno, bool) {
	t.Helper()
	before := cloned(s)
	want, wantErr, wantOk := second(cloned(s), x)
	got, err, ok := Apply(s, x)
	if err != wantErr || ok != wantOk || !same(got, want) {
		t.Fatalf("%s: Apply(%#v, %#v) =\n%#v, %d, %t; want\n%#v, %d, %t", what, s, x, got, err, ok, want, wantErr, wantOk)
	}
	if !same(s, before) {
		t.Fatalf("%s: Apply changed what it was given", what)
	}
	return got, err, ok
}

// takes tells it, if the transaction is not taken, or does not revert with that error, or not as the second writing says.
func takes(t *testing.T, what string, s State, x api.Tx, want api.Errno) State {
	t.Helper()
	next, err, ok := is(t, what, s, x)
	if err != want || !ok {
		t.Fatalf("%s: %d, %t; want %d and taken", what, err, ok, want)
	}
	return next
}

// refuses tells it, if the transaction is taken, or not refused with that error, or the state is another.
func refuses(t *testing.T, what string, s State, x api.Tx, want api.Errno) {
	t.Helper()
	next, err, ok := is(t, what, s, x)
	if err != want || ok || !same(next, s) {
		t.Fatalf("%s: %d, %t; want %d and not taken", what, err, ok, want)
	}
}

// roots and signatures are made once: they take long.
var (
	roots      = map[int]string{}
	signatures = map[string]string{}
)

// seedOf is the seed of a user's key, rootOf its root.
func seedOf(user int) string {
	return fmt.Sprint("user ", user)
}

func rootOf(user int) string {
	if roots[user] == "" {
		roots[user] = mss.Root(seedOf(user))
	}
	return roots[user]
}

// trade is a transfer of a user, by its first key.
func trade(user int, router int, id string) api.Inv {
	return api.Inv{User: user, Root: rootOf(user), Router: router, Send: 0, Recv: 1, To: 5, Id: id}
}

// sign is the user's signature of an act, by that leaf.
func sign(i api.Inv, act int, fee api.Wide, leaf int) string {
	name := fmt.Sprint(i, act, fee, leaf)
	if signatures[name] == "" {
		signatures[name], _, _ = mss.Sign(api.Key{Seed: seedOf(i.User), Next: leaf}, deal.Payload(act, deal.Key(i), fee))
	}
	return signatures[name]
}

// scene is a side at time 1000, on which trade "a" of user 0 and router 2 is locked for 100 till 1010.
func scene(side int) State {
	s := Genesis(side, 1000)
	for asset := range 2 {
		for router := 2; router < 4; router++ {
			s.Vault[router][asset] = api.Wide{500}
		}
		s.Held[asset] = api.Wide{1000 + 100}
	}
	i := trade(0, 2, "a")
	s.Locks = []Lock{
		{"before", "digest", 2},
		{deal.Key(i), deal.Digest(i, varOf()), 1},
		{"behind", "digest", 1},
	}
	return s
}

// varOf is what is locked in a scene.
func varOf() api.Var {
	return api.Var{Amount: api.Wide{100}, Expiry: 1010}
}

// good is a transaction of that kind that is done in a scene.
func good(side int, kind int) api.Tx {
	x := api.Tx{Kind: kind, Inv: trade(0, 2, "a"), Var: varOf()}
	switch kind {
	case 1, 2:
		x.From, x.Asset, x.Amount = 6, 1, api.Wide{100}
	case 3:
		x.From, x.Asset, x.Amount = 2, 1, api.Wide{100}
	case 4:
		x.Inv = trade(0, 2, "b")
		x.From = []int{0, 2}[side]
	case 5:
		x.From, x.Fee = 4, api.Wide{3}
		x.Sig = sign(x.Inv, 1, x.Fee, 0)
	case 6:
		x.From, x.Fee = 2, api.Wide{4}
		x.Sig = sign(x.Inv, 2, x.Fee, 1)
	}
	return x
}

// P12.1, Genesis: of Coins of each asset for all, and nothing else; side and time as they are told, else the nearest.
func TestGenesis(t *testing.T) {
	sides := map[int]int{0: 0, 1: 1, 2: 1, 3: 1, 256: 1, 1 << 32: 1, math.MaxInt: 1, -1: 0, -2: 0, -255: 0, math.MinInt: 0}
	times := map[int]int{0: 0, 1: 1, 1000: 1000, 1<<40 - 1: 1<<40 - 1, 1 << 40: 1 << 40, 1<<40 + 1: 1 << 40, 1 << 41: 1 << 40, math.MaxInt: 1 << 40, -1: 0, -1000: 0, math.MinInt: 0}
	for side, wantSide := range sides {
		for time, wantTime := range times {
			want := State{Side: wantSide, Time: wantTime}
			for account := range 8 {
				for asset := range 2 {
					want.Purse[account][asset] = api.Wide{1000}
				}
			}
			if got := Genesis(side, time); !same(got, want) || len(got.Locks) != 0 {
				t.Errorf("Genesis(%d, %d) = %#v", side, time, got)
			}
		}
	}
}

// P12.1, the chapter's example: a fulfil without a lock.
func TestExample(t *testing.T) {
	x := api.Tx{Kind: 5, Inv: api.Inv{Root: "12345678", Router: 2, Id: "x"}, Var: api.Var{Amount: api.Wide{1}}}
	s, err, ok := Apply(Genesis(0, 5), x)
	want := Genesis(0, 5)
	want.Purse[0][0], want.Burnt, want.Nonces[0] = api.Wide{999}, api.Wide{1}, 1
	if err != api.ErrStatus || !ok || !same(s, want) {
		t.Errorf("%#v, %d, %t", s, err, ok)
	}
}

// P12.1, Apply: what each kind does on each side, written out.
func TestDone(t *testing.T) {
	key, digest := deal.Key(trade(0, 2, "a")), deal.Digest(trade(0, 2, "a"), varOf())
	newKey, newDigest := deal.Key(trade(0, 2, "b")), deal.Digest(trade(0, 2, "b"), varOf())
	status := func(s *State, n int) { s.Locks[1] = Lock{key, digest, n} }
	for side := range 2 {
		for kind, change := range map[int]func(*State){
			1: func(s *State) { s.Purse[6][1], s.Purse[5][1] = api.Wide{900}, api.Wide{1100} },
			2: func(s *State) { s.Purse[6][1], s.Vault[2][1], s.Held[1] = api.Wide{900}, api.Wide{600}, api.Wide{1200} },
			3: func(s *State) {
				s.Purse[2][1], s.Vault[2][1], s.Held[1] = api.Wide{1100}, api.Wide{400}, api.Wide{1000}
			},
			4: func(s *State) {
				if side == 0 {
					s.Purse[0][0], s.Held[0] = api.Wide{899}, api.Wide{1200}
				} else {
					s.Vault[2][1] = api.Wide{400}
				}
				s.Locks = append(s.Locks, Lock{newKey, newDigest, 1})
			},
			5: func(s *State) {
				if side == 0 {
					s.Vault[2][0] = api.Wide{600}
				} else {
					s.Purse[5][1], s.Purse[4][1], s.Held[1] = api.Wide{1097}, api.Wide{1003}, api.Wide{1000}
				}
				status(s, 2)
			},
			6: func(s *State) {
				if side == 0 {
					s.Purse[0][0], s.Held[0] = api.Wide{1100}, api.Wide{1000}
				} else {
					s.Vault[2][1] = api.Wide{600}
				}
				status(s, 3)
			},
		} {
			x := good(side, kind)
			want := scene(side)
			want.Purse[x.From][0] = api.Wide{999}
			want.Burnt, want.Nonces[x.From] = api.Wide{1}, 1
			change(&want)
			got := takes(t, fmt.Sprint("kind ", kind, " on side ", side), scene(side), x, api.OK)
			if !same(got, want) {
				t.Errorf("kind %d on side %d: %#v; want %#v", kind, side, got, want)
			}
		}
	}
}

// wrong is one thing that may not be: its name, which part it is in, its error, and how early it is told.
type wrong struct {
	name string
	part string
	err  api.Errno
	rank int
	set  func(*State, *api.Tx)
}

// refusals are things for which no transaction is taken.
func refusals() []wrong {
	return []wrong{
		{"kind 0", "Kind", api.ErrKind, 1, func(s *State, x *api.Tx) { x.Kind = 0 }},
		{"kind 7", "Kind", api.ErrKind, 1, func(s *State, x *api.Tx) { x.Kind = 7 }},
		{"kind -1", "Kind", api.ErrKind, 1, func(s *State, x *api.Tx) { x.Kind = -1 }},
		{"from 8", "From", api.ErrRange, 2, func(s *State, x *api.Tx) { x.From = 8 }},
		{"from -1", "From", api.ErrRange, 2, func(s *State, x *api.Tx) { x.From = -1 }},
		{"from the least", "From", api.ErrRange, 2, func(s *State, x *api.Tx) { x.From = math.MinInt }},
		{"nonce -1", "Nonce", api.ErrRange, 2, func(s *State, x *api.Tx) { x.Nonce = -1 }},
		{"nonce too great", "Nonce", api.ErrRange, 2, func(s *State, x *api.Tx) { x.Nonce = 1<<40 + 1 }},
		{"asset 2", "Asset", api.ErrRange, 2, func(s *State, x *api.Tx) { x.Asset = 2 }},
		{"asset -1", "Asset", api.ErrRange, 2, func(s *State, x *api.Tx) { x.Asset = -1 }},
		{"no amounts", "Amount", api.ErrAmount, 4, func(s *State, x *api.Tx) { x.Amount, x.Var.Amount = api.Wide{}, api.Wide{} }},
		{"long sig", "Sig", api.ErrLong, 5, func(s *State, x *api.Tx) { x.Sig = string(make([]byte, 1025)) }},
		{"one nonce below", "Nonces", api.ErrNonce, 6, func(s *State, x *api.Tx) { setNonces(s, 7); x.Nonce = 6 }},
		{"one nonce above", "Nonces", api.ErrNonce, 6, func(s *State, x *api.Tx) { setNonces(s, 7); x.Nonce = 8 }},
		{"a nonce far off", "Nonces", api.ErrNonce, 6, func(s *State, x *api.Tx) { setNonces(s, 7); x.Nonce = 7 + 256 }},
		{"nonces that nobody reached", "Nonces", api.ErrNonce, 6, func(s *State, x *api.Tx) { setNonces(s, -1) }},
		{"no coin", "coin", api.ErrFee, 7, func(s *State, x *api.Tx) { setCoins(s, api.Wide{}) }},
		{"all burnt", "burnt", api.ErrFee, 7, func(s *State, x *api.Tx) { s.Burnt = most(0) }},
	}
}

func setNonces(s *State, n int) {
	for account := range s.Nonces {
		s.Nonces[account] = n
	}
}

func setCoins(s *State, n api.Wide) {
	for account := range s.Purse {
		s.Purse[account][0] = n
	}
}

// P12.1, Apply: what is not taken leaves the state as it was; the first error of those that the chapter names.
func TestNotTaken(t *testing.T) {
	for side := range 2 {
		for kind := 1; kind <= 6; kind++ {
			for _, one := range refusals() {
				if one.part == "Sig" && kind < 4 {
					continue
				}
				s, x := scene(side), good(side, kind)
				one.set(&s, &x)
				refuses(t, fmt.Sprintf("kind %d, %s", kind, one.name), s, x, one.err)
				for _, other := range refusals() {
					if other.part == one.part || other.rank < one.rank {
						continue
					}
					s, x := scene(side), good(side, kind)
					other.set(&s, &x)
					one.set(&s, &x)
					refuses(t, fmt.Sprintf("kind %d, %s and %s", kind, one.name, other.name), s, x, one.err)
				}
			}
		}
	}
}

// P12.1, Apply: what isn't taken is told ahead of what it would revert with.
func TestNotTakenGoesAhead(t *testing.T) {
	for side := range 2 {
		for kind := 1; kind <= 6; kind++ {
			for _, revert := range revertsOf(side, kind) {
				s, x := scene(side), good(side, kind)
				revert.set(&s, &x)
				x.Nonce++
				refuses(t, revert.name, s, x, api.ErrNonce)
				x.Nonce--
				if revert.part == "coins" {
					continue
				}
				setCoins(&s, api.Wide{})
				refuses(t, revert.name, s, x, api.ErrFee)
			}
		}
	}
}

// P12.1, Apply: the last coin is enough, the last that can be burnt, the last Nonce; each account's own Nonce counts.
func TestTakenAtTheEdge(t *testing.T) {
	for kind := 1; kind <= 6; kind++ {
		for side := range 2 {
			s, x := scene(side), good(side, kind)
			s.Burnt = most(1)
			s.Nonces = [8]int{1, 2, 3, 4, 5, 6, 7, 8}
			x.Nonce = x.From + 1
			if next := takes(t, "the last that can be burnt", s, x, api.OK); next.Burnt != most(0) {
				t.Errorf("burnt: %v", next.Burnt)
			}
			s, x = scene(side), good(side, kind)
			s.Nonces[x.From], x.Nonce = 1<<40, 1<<40
			next := takes(t, "the last Nonce", s, x, api.OK)
			if next.Nonces[x.From] != 1<<40+1 {
				t.Errorf("behind the last Nonce: %d", next.Nonces[x.From])
			}
			refuses(t, "the last Nonce again", next, x, api.ErrNonce)
			x.Nonce++
			refuses(t, "behind the last Nonce", next, x, api.ErrRange)
		}
	}
	s := Genesis(0, 0)
	setCoins(&s, api.Wide{1})
	s = takes(t, "the last coin", s, api.Tx{From: 7, Kind: 1, Asset: 1, Amount: api.Wide{1}}, api.OK)
	refuses(t, "no coin any more", s, api.Tx{From: 7, Nonce: 1, Kind: 1, Asset: 1, Amount: api.Wide{1}}, api.ErrFee)
	s = Genesis(1, 0)
	s.Purse[7][0] = api.Wide{0, 1}
	s = takes(t, "a coin of a higher word", s, api.Tx{From: 7, Kind: 1, Asset: 1, Amount: api.Wide{1}}, api.OK)
	if s.Purse[7][0] != (api.Wide{top}) {
		t.Errorf("a coin of a higher word: %v", s.Purse[7][0])
	}
}

// revertsOf are things for which a transaction of that kind reverts on that side.
func revertsOf(side int, kind int) []wrong {
	switch kind {
	case 1, 2, 3:
		return movesReverts(kind)
	case 4:
		return prepareReverts(side)
	}
	return closeReverts(side, kind)
}

func movesReverts(kind int) []wrong {
	poor := wrong{"one too little", "Amount", api.ErrFunds, 1, func(s *State, x *api.Tx) { x.Amount = api.Wide{1001} }}
	none := wrong{"far too little", "Amount", api.ErrFunds, 1, func(s *State, x *api.Tx) { x.Amount = most(0) }}
	coin := wrong{"a coin that is burnt", "Amount", api.ErrFunds, 1, func(s *State, x *api.Tx) { x.Asset, x.Amount = 0, api.Wide{1000} }}
	held := wrong{"too much held", "held", api.ErrOverflow, 2, func(s *State, x *api.Tx) { s.Held = [2]api.Wide{most(99), most(99)} }}
	vaults := wrong{"too much in the vault", "vault", api.ErrOverflow, 2, func(s *State, x *api.Tx) { s.Vault[2] = [2]api.Wide{most(99), most(99)} }}
	switch kind {
	case 1:
		full := wrong{"too much there", "there", api.ErrOverflow, 2, func(s *State, x *api.Tx) { s.Purse[5] = [2]api.Wide{most(99), most(99)} }}
		return []wrong{poor, none, coin, full}
	case 2:
		return []wrong{poor, none, coin, held, vaults}
	}
	var l []wrong
	for _, from := range []int{0, 1, 4, 5, 6, 7} {
		l = append(l, wrong{fmt.Sprint("from ", from), "From", api.ErrSender, 1, func(s *State, x *api.Tx) { x.From = from }})
	}
	return append(l,
		wrong{"one too little", "Amount", api.ErrVault, 2, func(s *State, x *api.Tx) { x.Amount = api.Wide{501} }},
		wrong{"far too little", "Amount", api.ErrVault, 2, func(s *State, x *api.Tx) { x.Amount = most(0) }},
		wrong{"too much in the purse", "purse", api.ErrOverflow, 3, func(s *State, x *api.Tx) { s.Purse[2][1] = most(99) }},
		wrong{"too little held", "held", api.ErrOverflow, 3, func(s *State, x *api.Tx) { s.Held[1] = api.Wide{99} }})
}

func prepareReverts(side int) []wrong {
	var l []wrong
	for _, status := range []int{1, 2, 3, 0, -1, 4} {
		l = append(l, wrong{fmt.Sprint("a lock of status ", status), "locks", api.ErrStatus, 1, func(s *State, x *api.Tx) {
			s.Locks[2] = Lock{deal.Key(x.Inv), "digest", status}
		}})
	}
	for _, expiry := range []int{0, 1, 999, 1000, 2025, 2026, 1 << 20, 1 << 32, 1<<40 - 1, 1 << 40} {
		l = append(l, wrong{fmt.Sprint("expiry ", expiry), "Expiry", api.ErrExpiry, 2, func(s *State, x *api.Tx) { x.Var.Expiry = expiry }})
	}
	right := []int{0, 2}[side]
	for from := range 8 {
		if from != right {
			l = append(l, wrong{fmt.Sprint("from ", from), "From", api.ErrSender, 3, func(s *State, x *api.Tx) { x.From = from }})
		}
	}
	if side == 1 {
		return append(l,
			wrong{"one too little", "Amount", api.ErrVault, 4, func(s *State, x *api.Tx) { x.Var.Amount = api.Wide{501} }},
			wrong{"far too little", "Amount", api.ErrVault, 4, func(s *State, x *api.Tx) { x.Var.Amount = most(0) }})
	}
	return append(l,
		wrong{"one too little", "Amount", api.ErrFunds, 4, func(s *State, x *api.Tx) { x.Var.Amount = api.Wide{1000} }},
		wrong{"far too little", "Amount", api.ErrFunds, 4, func(s *State, x *api.Tx) { x.Var.Amount = most(0) }},
		wrong{"too much held", "held", api.ErrOverflow, 5, func(s *State, x *api.Tx) { s.Held[0] = most(99) }})
}

func closeReverts(side int, kind int) []wrong {
	lock := func(name string, set func(*State)) wrong {
		return wrong{name, "locks", api.ErrStatus, 1, func(s *State, x *api.Tx) { set(s) }}
	}
	l := []wrong{
		lock("no locks", func(s *State) { s.Locks = nil }),
		lock("no such lock", func(s *State) { s.Locks[1].Key = "another" }),
		lock("fulfilled", func(s *State) { s.Locks[1].Status = 2 }),
		lock("cancelled", func(s *State) { s.Locks[1].Status = 3 }),
		lock("status 0", func(s *State) { s.Locks[1].Status = 0 }),
		lock("status 4", func(s *State) { s.Locks[1].Status = 4 }),
		lock("status -1", func(s *State) { s.Locks[1].Status = -1 }),
		lock("one ahead of it", func(s *State) { s.Locks[0] = Lock{s.Locks[1].Key, s.Locks[1].Digest, 3} }),
		{"another amount", "digest", api.ErrDigest, 2, func(s *State, x *api.Tx) { x.Var.Amount[0]++ }},
		{"another expiry", "digest", api.ErrDigest, 2, func(s *State, x *api.Tx) { x.Var.Expiry++ }},
		{"another expiry, past", "digest", api.ErrDigest, 2, func(s *State, x *api.Tx) { x.Var.Expiry = 1000 }},
		{"another digest", "digest", api.ErrDigest, 2, func(s *State, x *api.Tx) { s.Locks[1].Digest += "x" }},
		{"no digest", "digest", api.ErrDigest, 2, func(s *State, x *api.Tx) { s.Locks[1].Digest = "" }},
	}
	if kind == 5 {
		return append(l, fulfilReverts(side)...)
	}
	return append(l, cancelReverts(side)...)
}

// forgeries are signatures that are none of that act.
func forgeries(act int, rank int) []wrong {
	sig := func(name string, set func(*api.Tx)) wrong {
		return wrong{name, "Sig", api.ErrSig, rank, func(s *State, x *api.Tx) { set(x) }}
	}
	return []wrong{
		sig("no signature", func(x *api.Tx) { x.Sig = "" }),
		sig("one octet more", func(x *api.Tx) { x.Sig += "x" }),
		sig("one octet less", func(x *api.Tx) { x.Sig = x.Sig[:len(x.Sig)-1] }),
		sig("the other act", func(x *api.Tx) { x.Sig = sign(x.Inv, 3-act, x.Fee, 0) }),
		sig("another fee", func(x *api.Tx) { x.Fee = api.Wide{5} }),
		sig("no fee", func(x *api.Tx) { x.Fee = api.Wide{} }),
		sig("another transfer", func(x *api.Tx) { x.Sig = sign(trade(0, 2, "b"), act, x.Fee, 0) }),
		sig("another user's", func(x *api.Tx) {
			x.Sig, _, _ = mss.Sign(api.Key{Seed: seedOf(1)}, deal.Payload(act, deal.Key(x.Inv), x.Fee))
		}),
	}
}

func fulfilReverts(side int) []wrong {
	var l []wrong
	for _, time := range []int{1010, 1011, 2034, 1 << 40} {
		l = append(l, wrong{fmt.Sprint("time ", time), "Time", api.ErrExpiry, 3, func(s *State, x *api.Tx) { s.Time = time }})
	}
	for _, fee := range []api.Wide{{101}, {102}, {0, 1}, {0, 0, 0, 1}, most(0)} {
		l = append(l, wrong{fmt.Sprint("fee ", fee), "Sig", api.ErrAmount, 4, func(s *State, x *api.Tx) {
			x.Fee = fee
			x.Sig = sign(x.Inv, 1, fee, 0)
		}})
		l = append(l, wrong{fmt.Sprint("fee ", fee, ", not signed"), "Sig", api.ErrAmount, 4, func(s *State, x *api.Tx) { x.Fee = fee }})
	}
	l = append(l, forgeries(1, 5)...)
	if side == 0 {
		return append(l, wrong{"too much in the vault", "vault", api.ErrOverflow, 6, func(s *State, x *api.Tx) { s.Vault[2][0] = most(99) }})
	}
	return append(l,
		wrong{"too much there", "there", api.ErrOverflow, 6, func(s *State, x *api.Tx) { s.Purse[5][1] = most(96) }},
		wrong{"too much here", "here", api.ErrOverflow, 6, func(s *State, x *api.Tx) { s.Purse[x.From][1] = most(2) }},
		wrong{"too little held", "held", api.ErrOverflow, 6, func(s *State, x *api.Tx) { s.Held[1] = api.Wide{99} }})
}

func cancelReverts(side int) []wrong {
	if side == 1 {
		return append(forgeries(2, 3), wrong{"too much in the vault", "vault", api.ErrOverflow, 4, func(s *State, x *api.Tx) { s.Vault[2][1] = most(99) }})
	}
	var l []wrong
	for _, from := range []int{0, 1, 3, 4, 5, 6, 7} {
		l = append(l, wrong{fmt.Sprint("from ", from), "From", api.ErrSender, 3, func(s *State, x *api.Tx) { x.From = from }})
	}
	return append(l,
		wrong{"too much in the purse", "coins", api.ErrOverflow, 4, func(s *State, x *api.Tx) { s.Purse[0][0] = most(99) }},
		wrong{"too little held", "held", api.ErrOverflow, 4, func(s *State, x *api.Tx) { s.Held[0] = api.Wide{99} }})
}

// P12.1, Apply: each thing wrong alone is its revert, of two the first in the chapter's order; but for the coin and the Nonce nothing changes.
func TestReverts(t *testing.T) {
	for side := range 2 {
		for kind := 1; kind <= 6; kind++ {
			for _, one := range revertsOf(side, kind) {
				check := func(what string, others ...wrong) {
					s, x := scene(side), good(side, kind)
					for _, other := range others {
						other.set(&s, &x)
					}
					one.set(&s, &x)
					next := takes(t, fmt.Sprintf("kind %d on side %d, %s%s", kind, side, one.name, what), s, x, one.err)
					next.Purse[x.From][0], next.Burnt, next.Nonces[x.From] = s.Purse[x.From][0], s.Burnt, s.Nonces[x.From]
					if !same(next, s) {
						t.Errorf("kind %d on side %d, %s%s: more than the coin and the Nonce changed", kind, side, one.name, what)
					}
				}
				check("")
				for _, other := range revertsOf(side, kind) {
					if other.part != one.part && other.rank >= one.rank {
						check(" and "+other.name, other)
					}
				}
			}
		}
	}
}

// with is a scene and a transaction of that kind, changed.
func with(side int, kind int, set func(*State, *api.Tx)) (State, api.Tx) {
	s, x := scene(side), good(side, kind)
	set(&s, &x)
	return s, x
}

// P12.1, Apply of 1 to 3: all that there is may go, what just fits fits, and who pays themselves loses a coin alone.
func TestMovesAtTheEdge(t *testing.T) {
	for side := range 2 {
		for kind, all := range map[int]uint64{1: 1000, 2: 1000, 3: 500} {
			s, x := with(side, kind, func(s *State, x *api.Tx) { x.Amount = api.Wide{all} })
			takes(t, "all that there is", s, x, api.OK)
			s, x = with(side, kind, func(s *State, x *api.Tx) { x.Asset, x.Amount = 0, api.Wide{min(all, 999)} })
			takes(t, "all but the coin", s, x, api.OK)
		}
		s, x := with(side, 1, func(s *State, x *api.Tx) { s.Purse[5][1] = most(100) })
		takes(t, "what just fits the purse", s, x, api.OK)
		s, x = with(side, 2, func(s *State, x *api.Tx) { s.Vault[2][1], s.Held[1] = most(100), most(100) })
		takes(t, "what just fits the vault", s, x, api.OK)
		s, x = with(side, 3, func(s *State, x *api.Tx) { s.Purse[2][1], s.Held[1] = most(100), api.Wide{100} })
		takes(t, "what just fits the purse and was held", s, x, api.OK)
		s, x = with(side, 1, func(s *State, x *api.Tx) { x.Inv.To, s.Purse[6][1] = 6, most(0) })
		if next := takes(t, "to oneself", s, x, api.OK); next.Purse[6][1] != most(0) {
			t.Errorf("to oneself: %v", next.Purse[6][1])
		}
		for from := range 8 {
			for to := range 8 {
				for asset := range 2 {
					s, x := with(side, 1, func(s *State, x *api.Tx) { x.From, x.Inv.To, x.Asset = from, to, asset })
					takes(t, "a transfer", s, x, api.OK)
					x.Inv.Router, x.Kind = 2+to%2, 2
					takes(t, "into a vault", s, x, api.OK)
					x.From, x.Kind = 2+from%2, 3
					takes(t, "out of a vault", s, x, api.OK)
				}
			}
		}
	}
}

// P12.1, Apply of 4: for each user, router and asset, at the edges of Expiry; a lock of another transfer is no hindrance.
func TestPrepareAtTheEdge(t *testing.T) {
	for side := range 2 {
		for n := range 32 {
			s, x := with(side, 4, func(s *State, x *api.Tx) {
				x.Inv.User, x.Inv.Router, x.Inv.Send, x.Inv.Recv = n%2, 2+n/2%2, n/4%2, n/8%2
				x.From = []int{x.Inv.User, x.Inv.Router}[side]
				x.Asset = n / 16
			})
			next := takes(t, "a prepare", s, x, api.OK)
			x.Nonce++
			takes(t, "the same prepare", next, x, api.ErrStatus)
			x.Var.Amount[0]++
			takes(t, "with another amount", next, x, api.ErrStatus)
			x.Inv.Id = "c"
			next = takes(t, "another prepare", next, x, api.OK)
			if Status(next, deal.Key(x.Inv)) != 1 || len(next.Locks) != 5 {
				t.Errorf("prepared twice: %#v", next.Locks)
			}
		}
		for _, time := range []int{0, 1, 1000, 1<<40 - 1025, 1<<40 - 1024, 1<<40 - 2, 1<<40 - 1, 1 << 40} {
			for expiry := max(time-2, 0); expiry <= min(time+1027, 1<<40); expiry++ {
				if expiry > time+3 && expiry < time+1022 && expiry%97 != 0 {
					continue
				}
				s, x := with(side, 4, func(s *State, x *api.Tx) { s.Time, x.Var.Expiry = time, expiry })
				want := api.OK
				if expiry <= time || expiry > time+1024 {
					want = api.ErrExpiry
				}
				takes(t, fmt.Sprint("expiry ", expiry, " at ", time), s, x, want)
			}
		}
		all := []uint64{999, 500}[side]
		s, x := with(side, 4, func(s *State, x *api.Tx) { x.Var.Amount = api.Wide{all} })
		takes(t, "all that there is", s, x, api.OK)
	}
	s, x := with(0, 4, func(s *State, x *api.Tx) { s.Held[0] = most(100) })
	takes(t, "what can just be held", s, x, api.OK)
	s, x = with(1, 4, func(s *State, x *api.Tx) { s.Held[1] = most(0) })
	takes(t, "what is held already", s, x, api.OK)
	s, x = with(1, 4, func(s *State, x *api.Tx) { s.Held[1] = api.Wide{} })
	takes(t, "what is not held, but in the vault", s, x, api.OK)
}

// relock is a scene in which the lock, and a transaction, are of another transfer and another side's data.
func relock(side int, kind int, set func(*api.Tx)) (State, api.Tx) {
	s, x := scene(side), good(side, kind)
	set(&x)
	x.Inv.Root = rootOf(x.Inv.User)
	s.Locks[1] = Lock{deal.Key(x.Inv), deal.Digest(x.Inv, x.Var), 1}
	x.Sig = sign(x.Inv, kind-4, x.Fee, 0)
	return s, x
}

// P12.1, Apply of 5: each leaf's signature, each fee up to all of it, the last moment, all senders and receivers.
func TestFulfilAtTheEdge(t *testing.T) {
	for side := range 2 {
		for leaf := range 8 {
			s, x := with(side, 5, func(s *State, x *api.Tx) { x.Sig = sign(x.Inv, 1, x.Fee, leaf) })
			takes(t, fmt.Sprint("leaf ", leaf), s, x, api.OK)
		}
		for _, fee := range []uint64{0, 1, 99, 100} {
			s, x := relock(side, 5, func(x *api.Tx) { x.Fee = api.Wide{fee} })
			takes(t, fmt.Sprint("fee ", fee), s, x, api.OK)
		}
		s, x := with(side, 5, func(s *State, x *api.Tx) { s.Time = 1009 })
		takes(t, "the last moment", s, x, api.OK)
		s, x = with(side, 5, func(s *State, x *api.Tx) { s.Time = 0 })
		takes(t, "long ahead", s, x, api.OK)
		for from := range 8 {
			for to := range 8 {
				s, x := relock(side, 5, func(x *api.Tx) {
					x.From, x.Inv.To, x.Inv.User, x.Inv.Router = from, to, from%2, 2+to%2
					x.Inv.Send, x.Inv.Recv, x.Asset = to/2%2, from/2%2, to%2
				})
				next := takes(t, "a fulfil", s, x, api.OK)
				x.Nonce++
				takes(t, "again", next, x, api.ErrStatus)
				x.Kind = 6
				takes(t, "cancelled then", next, x, api.ErrStatus)
				x.Kind, x.From, x.Nonce = 4, []int{x.Inv.User, x.Inv.Router}[side], next.Nonces[[]int{x.Inv.User, x.Inv.Router}[side]]
				takes(t, "prepared then", next, x, api.ErrStatus)
			}
		}
	}
	s, x := with(0, 5, func(s *State, x *api.Tx) { s.Vault[2][0] = most(100) })
	takes(t, "what just fits the vault", s, x, api.OK)
	s, x = with(0, 5, func(s *State, x *api.Tx) { s.Held[0] = api.Wide{} })
	takes(t, "what is held stays", s, x, api.OK)
	s, x = with(1, 5, func(s *State, x *api.Tx) { s.Purse[5][1], s.Purse[4][1], s.Held[1] = most(97), most(3), api.Wide{100} })
	takes(t, "what just fits the purses and was held", s, x, api.OK)
	for _, room := range []uint64{99, 100} {
		s, x = with(1, 5, func(s *State, x *api.Tx) { x.From, s.Purse[5][1] = 5, most(room) })
		takes(t, "all into one purse", s, x, []api.Errno{api.ErrOverflow, api.OK}[room-99])
	}
	s, x = relock(1, 5, func(x *api.Tx) { x.Var.Amount, x.Fee = most(0), most(1) })
	s.Purse[4][1], s.Purse[5][1], s.Held[1] = api.Wide{1}, most(1), most(0)
	takes(t, "the greatest amount", s, x, api.OK)
}

// P12.1, Apply of 6: while it lasts by the router, or with the user's signature; when it is past by anyone.
func TestCancelAtTheEdge(t *testing.T) {
	for side := range 2 {
		for from := range 8 {
			for _, time := range []int{0, 1000, 1009, 1010, 1011, 3000, 1 << 40} {
				for _, sig := range []string{good(side, 6).Sig, good(side, 5).Sig, ""} {
					s, x := with(side, 6, func(s *State, x *api.Tx) { x.From, s.Time, x.Sig = from, time, sig })
					want := api.OK
					if side == 0 && time < 1010 && from != 2 {
						want = api.ErrSender
					}
					if side == 1 && time < 1010 && sig != good(side, 6).Sig {
						want = api.ErrSig
					}
					next := takes(t, fmt.Sprint("from ", from, " at ", time, " on side ", side), s, x, want)
					x.Nonce++
					if want == api.OK {
						takes(t, "again", next, x, api.ErrStatus)
						x.Kind = 5
						takes(t, "fulfilled then", next, x, api.ErrStatus)
					}
				}
			}
		}
		for n := range 16 {
			s, x := relock(side, 6, func(x *api.Tx) {
				x.Inv.User, x.Inv.Router, x.Inv.Send, x.Inv.Recv, x.From = n%2, 2+n/2%2, n/4%2, n/8%2, 2+n/2%2
			})
			takes(t, "a cancel", s, x, api.OK)
		}
		s, x := relock(side, 6, func(x *api.Tx) { x.Fee = most(0) })
		takes(t, "a fee above all", s, x, api.OK)
	}
	s, x := with(0, 6, func(s *State, x *api.Tx) { s.Purse[0][0], s.Held[0] = most(100), api.Wide{100} })
	takes(t, "what just fits the purse and was held", s, x, api.OK)
	s, x = with(1, 6, func(s *State, x *api.Tx) { s.Vault[2][1], s.Held[1] = most(100), api.Wide{} })
	takes(t, "what just fits the vault", s, x, api.OK)
}

// P12.1, Apply: of several locks with one key, which no call makes, the first counts alone.
func TestFirstLockCounts(t *testing.T) {
	for side := range 2 {
		for kind := 5; kind <= 6; kind++ {
			s, x := with(side, kind, func(s *State, x *api.Tx) { s.Locks = append(s.Locks, s.Locks[1]) })
			next := takes(t, "two of one key", s, x, api.OK)
			if next.Locks[1].Status != kind-3 || next.Locks[3].Status != 1 || Status(next, s.Locks[1].Key) != kind-3 {
				t.Errorf("kind %d: %#v", kind, next.Locks)
			}
			x.Nonce++
			takes(t, "the first is closed", next, x, api.ErrStatus)
		}
	}
}

// P12.1, Status: of the first lock with that key; 0 without one.
func TestStatus(t *testing.T) {
	s := State{Locks: []Lock{{"a", "", 1}, {"b", "x", 2}, {"a", "", 3}, {"c", "", 3}, {"", "", 2}, {"d", "", 0}, {"d", "", 1}, {"e", "", 9}, {"f", "", -1}}}
	for key, want := range map[string]int{"a": 1, "b": 2, "c": 3, "": 2, "d": 0, "e": 9, "f": -1, "g": 0, "x": 0, "a\x00": 0, "A": 0} {
		if got := Status(s, key); got != want {
			t.Errorf("Status(%q) = %d, want %d", key, got, want)
		}
	}
	for _, key := range []string{"", "a"} {
		if got := Status(State{}, key) + Status(Genesis(0, 0), key); got != 0 {
			t.Errorf("Status of nothing, %q = %d", key, got)
		}
	}
}

// P12.1, Rise: Time so much later, at most MaxNum, and nothing else.
func TestRise(t *testing.T) {
	for side := range 2 {
		for _, time := range []int{0, 1, 1000, 1<<40 - 1, 1 << 40} {
			for _, ticks := range []int{0, 1, 2, 1024, 1<<40 - 1001, 1<<40 - 1000, 1<<40 - 999, 1<<40 - 1, 1 << 40, 1 << 41, math.MaxInt - 1000, math.MaxInt, -1, -1000, math.MinInt, math.MinInt + 1} {
				s := scene(side)
				s.Time = time
				want := cloned(s)
				later := new(big.Int).Add(big.NewInt(int64(time)), big.NewInt(int64(max(ticks, 0))))
				want.Time = 1 << 40
				if later.Cmp(big.NewInt(1<<40)) < 0 {
					want.Time = int(later.Int64())
				}
				if got := Rise(s, ticks); !same(got, want) {
					t.Errorf("Rise(%d, %d) = %#v", time, ticks, got)
				}
			}
		}
	}
}

// together is how much of an asset there is at all.
func together(s State, asset int) *big.Int {
	sum := bigOf(s.Held[asset])
	for account := range 8 {
		sum.Add(sum, bigOf(s.Purse[account][asset]))
	}
	if asset == 0 {
		sum.Add(sum, bigOf(s.Burnt))
	}
	return sum
}

// anyTx is a transaction of those that a side may see, which often is done.
func anyTx(r *rand.Rand, s State, known []api.Tx) api.Tx {
	from := r.Intn(8)
	i := api.Inv{User: r.Intn(2), Router: 2 + r.Intn(2), Send: r.Intn(2), Recv: r.Intn(2), To: 5, Id: string('a' + rune(r.Intn(2)))}
	i.Root = rootOf(i.User)
	x := api.Tx{From: from, Kind: 1 + r.Intn(6), Asset: r.Intn(2), Amount: api.Wide{1 + uint64(r.Intn(400))}, Inv: i}
	x.Var = api.Var{Amount: api.Wide{10 * uint64(1+r.Intn(2))}, Expiry: 20 * (1 + s.Time/20 + r.Intn(2))}
	if len(known) > 0 && x.Kind > 4 && r.Intn(4) > 0 {
		old := known[r.Intn(len(known))]
		x.Inv, x.Var = old.Inv, old.Var
	}
	fee := uint64(r.Intn(4))
	x.Fee = api.Wide{fee}
	if x.Kind == 4 && r.Intn(4) > 0 {
		x.From = []int{i.User, i.Router}[s.Side]
	}
	if x.Kind > 4 {
		x.Sig = sign(x.Inv, x.Kind-4, x.Fee, int(fee))
	}
	if r.Intn(20) == 0 {
		x.Sig = sign(x.Inv, 1+r.Intn(2), api.Wide{uint64(r.Intn(4))}, 4)
	}
	x.Nonce = s.Nonces[x.From]
	if r.Intn(50) == 0 {
		x.Nonce += r.Intn(3) - 1
	}
	return x
}

// P12.1, P12.2: from genesis on, whatever the transactions, all is as the second writing says, and nothing is made; what is held is what vaults have and is locked.
func TestNothingIsMade(t *testing.T) {
	r := rand.New(rand.NewSource(12))
	seen := map[string]int{}
	for run := range 60 {
		s := Genesis(run%2, r.Intn(30))
		locked := map[string][2]*big.Int{}
		var known []api.Tx
		for range 120 {
			x := anyTx(r, s, known)
			next, err, _ := is(t, "at random", s, x)
			seen[fmt.Sprint(s.Side, x.Kind, err)]++
			if key := deal.Key(x.Inv); err == api.OK && x.Kind > 3 {
				locked[key] = [2]*big.Int{new(big.Int), new(big.Int)}
				if x.Kind == 4 {
					known = append(known, x)
					locked[key][[]int{x.Inv.Send, x.Inv.Recv}[s.Side]].Set(bigOf(x.Var.Amount))
				}
			}
			s = Rise(next, r.Intn(4)/2)
			for asset := range 2 {
				if sum := together(s, asset); sum.Cmp(big.NewInt(8000)) != 0 {
					t.Fatalf("behind %#v there is %v of asset %d", x, sum, asset)
				}
				held := new(big.Int)
				for account := range 8 {
					held.Add(held, bigOf(s.Vault[account][asset]))
				}
				for _, amounts := range locked {
					held.Add(held, amounts[asset])
				}
				if held.Cmp(bigOf(s.Held[asset])) != 0 {
					t.Fatalf("behind %#v %v of asset %d is held, not %v", x, s.Held[asset], asset, held)
				}
			}
		}
	}
	for side := range 2 {
		for kind := 1; kind <= 6; kind++ {
			if seen[fmt.Sprint(side, kind, api.OK)] == 0 {
				t.Errorf("no transaction of kind %d was ever done on side %d", kind, side)
			}
		}
	}
}

// P12.1: also of states that no call made (but with a side that there is, and a time) all is as the second writing says.
func TestAnyState(t *testing.T) {
	r := rand.New(rand.NewSource(13))
	some := func() api.Wide {
		switch r.Intn(6) {
		case 0:
			return most(uint64(r.Intn(30)))
		case 1:
			return api.Wide{uint64(r.Intn(30))}
		case 2:
			return api.Wide{uint64(r.Intn(3)), 0, uint64(r.Intn(2))}
		}
		return api.Wide{r.Uint64(), r.Uint64(), r.Uint64(), r.Uint64()}
	}
	anyBook := func() purse.Book {
		var b purse.Book
		for account := range b {
			b[account] = [2]api.Wide{some(), some()}
		}
		return b
	}
	for range 6000 {
		s := State{Side: r.Intn(2), Time: r.Intn(60), Purse: anyBook(), Vault: anyBook(), Held: [2]api.Wide{some(), some()}, Burnt: some()}
		for account := range s.Nonces {
			s.Nonces[account] = r.Intn(4) - 1
		}
		x := anyTx(r, s, nil)
		if r.Intn(3) == 0 {
			x.Amount, x.Var.Amount = some(), some()
		}
		for range r.Intn(4) {
			lock := Lock{deal.Key(x.Inv), deal.Digest(x.Inv, x.Var), r.Intn(5)}
			if r.Intn(2) == 0 {
				lock.Status = 1
			}
			if r.Intn(3) == 0 {
				lock.Key += "?"
			}
			if r.Intn(8) == 0 {
				lock.Digest = ""
			}
			s.Locks = append(s.Locks, lock)
		}
		is(t, "any state", s, x)
	}
}

// P1: no call panics, whatever the state.
func TestOddStates(t *testing.T) {
	for _, side := range []int{2, -1, 255, math.MaxInt, math.MinInt} {
		for _, time := range []int{0, -1, 1<<40 + 1, math.MaxInt, math.MinInt} {
			for kind := -1; kind <= 7; kind++ {
				s := scene(0)
				s.Side, s.Time = side, time
				Apply(s, good(0, kind))
				Rise(s, math.MaxInt)
				Rise(s, math.MinInt)
				Status(s, "")
			}
		}
	}
	refuses(t, "nothing to nothing", State{}, api.Tx{}, api.ErrKind)
	refuses(t, "without a coin", State{}, api.Tx{Kind: 3, Amount: api.Wide{1}}, api.ErrFee)
}

// P12.1: a side that there is not counts as the nearest, as in Genesis; it stays what it was.
func TestOddSides(t *testing.T) {
	for side, like := range map[int]int{2: 1, 255: 1, 256: 1, math.MaxInt: 1, -1: 0, -2: 0, math.MinInt: 0} {
		for kind := 1; kind <= 6; kind++ {
			for _, x := range []api.Tx{good(0, kind), good(1, kind)} {
				s := scene(like)
				want, wantErr, wantOk := Apply(s, x)
				s.Side, want.Side = side, side
				if got, err, ok := Apply(s, x); err != wantErr || ok != wantOk || !same(got, want) {
					t.Errorf("side %d, kind %d: %#v, %d, %t", side, kind, got, err, ok)
				}
			}
		}
	}
}

// spoil writes over all that a state's locks have room for.
func spoil(s State) {
	all := s.Locks[:cap(s.Locks)]
	for place := range all {
		all[place] = Lock{"spoilt", "spoilt", 7}
	}
}

// roomy is the state with room behind its locks, where something lies.
func roomy(s State) State {
	l := make([]Lock, 0, len(s.Locks)+4)
	l = append(l, s.Locks...)
	spoil(State{Locks: l[len(l):]})
	s.Locks = l
	return s
}

// P12.3: what is handed in is neither changed nor kept, an answer is new memory: whether it is done, reverts or isn't taken.
func TestMemory(t *testing.T) {
	calls := map[string]func(State) State{"Rise": func(s State) State { return Rise(s, 1) }, "Rise by nothing": func(s State) State { return Rise(s, 0) }}
	for side := range 2 {
		for kind := 1; kind <= 6; kind++ {
			x := good(side, kind)
			apply := func(name string, change func(*State)) {
				calls[fmt.Sprint(name, " kind ", kind, " on side ", side)] = func(s State) State {
					s.Side = side
					change(&s)
					next, _, _ := Apply(s, x)
					return next
				}
			}
			apply("done", func(s *State) {})
			apply("reverted", func(s *State) { s.Purse[6][1], s.Vault[2], s.Time = api.Wide{}, [2]api.Wide{}, 5000 })
			apply("overflown", func(s *State) {
				s.Purse[5][1], s.Purse[0][0], s.Vault[2], s.Held = most(0), most(0), [2]api.Wide{most(0), most(0)}, [2]api.Wide{most(0), most(0)}
			})
			apply("not taken", func(s *State) { s.Nonces[x.From] = 9 })
			apply("without a coin", func(s *State) { s.Purse[x.From][0] = api.Wide{} })
		}
	}
	for name, call := range calls {
		s := roomy(scene(0))
		before := slices.Clone(s.Locks[:cap(s.Locks)])
		answer, other := call(s), call(s)
		want := cloned(answer)
		if !slices.Equal(s.Locks[:cap(s.Locks)], before) {
			t.Errorf("%s: what was handed in is another", name)
		}
		spoil(answer)
		if !slices.Equal(s.Locks[:cap(s.Locks)], before) || !same(other, want) {
			t.Errorf("%s: the answer shares memory", name)
		}
		again := call(s)
		spoil(s)
		if !same(other, want) || !same(again, want) {
			t.Errorf("%s: the answer shares memory with what was handed in", name)
		}
	}
	a, b := Genesis(0, 0), Genesis(0, 0)
	a.Purse[0][0] = api.Wide{7}
	spoil(a)
	if !same(b, Genesis(0, 0)) {
		t.Error("Genesis: answers share memory")
	}
}

// P3: what Apply answers hangs on its arguments alone.
func TestAgain(t *testing.T) {
	for side := range 2 {
		for kind := 1; kind <= 6; kind++ {
			a, errA, okA := Apply(scene(side), good(side, kind))
			Apply(scene(1-side), good(side, kind))
			b, errB, okB := Apply(scene(side), good(side, kind))
			if !same(a, b) || errA != errB || okA != okB {
				t.Errorf("kind %d on side %d: answers differ", kind, side)
			}
		}
	}
}

// P12.1: a panic that nobody demanded does not pass for a revert.
func TestMistakesAreNotReverts(t *testing.T) {
	for _, thrown := range []any{"mistake", api.ErrSig, 35} {
		func() {
			defer func() {
				if got := recover(); got != thrown {
					t.Errorf("recovered %v, not %v", got, thrown)
				}
			}()
			attempt(State{}, func(*State) { panic(thrown) })
		}()
	}
}
