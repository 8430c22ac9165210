package purse

import (
	"math"
	"math/big"
	"math/rand"
	"testing"

	"narrows/api"
)

// The faces as the chapter has them: what doesn't fit does not build.
var (
	_ func(uint64) Book                                     = Even
	_ func(Book, int, int) api.Wide                         = Book.Of
	_ func(Book, int, int, api.Wide) (Book, api.Errno)      = Book.Give
	_ func(Book, int, int, api.Wide) (Book, api.Errno)      = Book.Take
	_ func(Book, int, int, int, api.Wide) (Book, api.Errno) = Book.Move
	_ func(Book, int) (api.Wide, bool)                      = Book.Total
	_ Book                                                  = [8][2]api.Wide{}
)

// top is the greatest number that a word can be.
const top = uint64(math.MaxUint64)

// most is the greatest wide number.
func most() api.Wide {
	return api.Wide{top, top, top, top}
}

// unlike is a book in which no two words are alike, and none is zero.
func unlike() Book {
	var b Book
	n := uint64(0)
	for account := range 8 {
		for asset := range 2 {
			for word := range 4 {
				n += 0x0101010101
				b[account][asset][word] = n
			}
		}
	}
	return b
}

// fullOf is a book in which all have that amount of each asset.
func fullOf(amount api.Wide) Book {
	var b Book
	for account := range 8 {
		b[account] = [2]api.Wide{amount, amount}
	}
	return b
}

// alone is a book in which one account has something of one asset.
func alone(account int, asset int, amount api.Wide) Book {
	var b Book
	b[account][asset] = amount
	return b
}

// noAccounts and noAssets are numbers that are none, though the lowest bits of some are.
func noAccounts() []int {
	return []int{-1, -2, -7, -8, -256, -(1 << 32), -(1 << 32) + 1, math.MinInt, math.MinInt + 1, math.MinInt + 7, 8, 9, 10, 15, 16, 17, 255, 256, 257, 1 << 16, 1 << 32, 1<<32 + 3, 1 << 40, 1<<40 + 1, 1 << 62, math.MaxInt - 1, math.MaxInt}
}

func noAssets() []int {
	return []int{-1, -2, -8, -256, -(1 << 32), -(1 << 32) + 1, math.MinInt, math.MinInt + 1, 2, 3, 4, 7, 8, 9, 16, 255, 256, 257, 1 << 16, 1 << 32, 1<<32 + 1, 1 << 40, 1<<40 + 1, 1 << 62, math.MaxInt - 1, math.MaxInt}
}

// amounts are wide numbers with edges of each word; zero is one of them.
func amounts() []api.Wide {
	l := []api.Wide{{}, {1}, {2}, {3}, {99}, {100}, {1000}, {1<<63 - 1}, {1 << 63}, {top - 1}, {top}, most(), {top - 1, top, top, top}, {top, top, top, top - 1}, {0, top, top, top}, {1, 1, 1, 1}}
	for word := 1; word < 4; word++ {
		var a, b api.Wide
		a[word] = 1
		b[word] = 1 << 63
		c := a
		c[0] = 1
		l = append(l, a, b, c)
	}
	for word := 1; word < 4; word++ {
		var a api.Wide
		for below := range word {
			a[below] = top
		}
		l = append(l, a)
	}
	return l
}

// books are those at whose edges something goes wrong, and some in between.
func books() []Book {
	l := []Book{{}, unlike(), fullOf(most()), fullOf(api.Wide{1}), fullOf(api.Wide{1000}), fullOf(api.Wide{0, 0, 0, 1 << 61})}
	r := rand.New(rand.NewSource(11))
	for range 6 {
		l = append(l, anyBook(r))
	}
	return l
}

// anyAmount is one of any length; now and then an edge, or the greatest.
func anyAmount(r *rand.Rand) api.Wide {
	if r.Intn(4) == 0 {
		edges := amounts()
		return edges[r.Intn(len(edges))]
	}
	var a api.Wide
	for word := range r.Intn(5) {
		a[word] = r.Uint64()
	}
	return a
}

func anyBook(r *rand.Rand) Book {
	var b Book
	for account := range b {
		for asset := range b[account] {
			b[account][asset] = anyAmount(r)
		}
	}
	return b
}

// toBig and fromBig lead to the numbers of the standard library, and back.
func toBig(a api.Wide) *big.Int {
	n := new(big.Int)
	for word := 3; word >= 0; word-- {
		n.Lsh(n, 64).Or(n, new(big.Int).SetUint64(a[word]))
	}
	return n
}

// fromBig is zero and false, if n is no wide number.
func fromBig(n *big.Int) (api.Wide, bool) {
	if n.Sign() < 0 || n.BitLen() > 256 {
		return api.Wide{}, false
	}
	var a api.Wide
	low := new(big.Int).SetUint64(top)
	for word := range a {
		a[word] = new(big.Int).And(new(big.Int).Rsh(n, uint(64*word)), low).Uint64()
	}
	return a, true
}

// plus and minus are what would be there, and whether it can be.
func plus(a api.Wide, b api.Wide) (api.Wide, bool) {
	return fromBig(new(big.Int).Add(toBig(a), toBig(b)))
}

func minus(a api.Wide, b api.Wide) (api.Wide, bool) {
	return fromBig(new(big.Int).Sub(toBig(a), toBig(b)))
}

// isOne tells whether there are such an account and asset, written a second time.
func isOne(account int, asset int) bool {
	return account >= 0 && account <= 7 && (asset == 0 || asset == 1)
}

// given, taken and moved are what Give, Take and Move answer, written a second time.
func given(b Book, account int, asset int, amount api.Wide) (Book, api.Errno) {
	if !isOne(account, asset) {
		return b, api.ErrRange
	}
	sum, ok := plus(b[account][asset], amount)
	if !ok {
		return b, api.ErrOverflow
	}
	b[account][asset] = sum
	return b, api.OK
}

func taken(b Book, account int, asset int, amount api.Wide) (Book, api.Errno) {
	if !isOne(account, asset) {
		return b, api.ErrRange
	}
	rest, ok := minus(b[account][asset], amount)
	if !ok {
		return b, api.ErrFunds
	}
	b[account][asset] = rest
	return b, api.OK
}

func moved(b Book, from int, to int, asset int, amount api.Wide) (Book, api.Errno) {
	if !isOne(from, asset) {
		return b, api.ErrRange
	}
	rest, enough := minus(b[from][asset], amount)
	switch {
	case !enough:
		return b, api.ErrFunds
	case !isOne(to, asset):
		return b, api.ErrRange
	case from == to:
		return b, api.OK
	}
	sum, room := plus(b[to][asset], amount)
	if !room {
		return b, api.ErrOverflow
	}
	b[from][asset], b[to][asset] = rest, sum
	return b, api.OK
}

// allOf is what all accounts have of an asset, of any size.
func allOf(b Book, asset int) *big.Int {
	n := new(big.Int)
	for _, row := range b {
		n.Add(n, toBig(row[asset]))
	}
	return n
}

// same fails unless a book and an error are those that are wanted.
func same(t *testing.T, what string, got Book, err api.Errno, want Book, wantErr api.Errno) {
	t.Helper()
	if got != want || err != wantErr {
		t.Errorf("%s: %v, %v; want %v, %v", what, got, err, want, wantErr)
	}
}

// gives, takes and moves fail unless the calls answer as the second writing does, and leave the book that they are asked of.
func gives(t *testing.T, b Book, account int, asset int, amount api.Wide) {
	t.Helper()
	was := b
	got, err := b.Give(account, asset, amount)
	want, wantErr := given(b, account, asset, amount)
	same(t, "Give", got, err, want, wantErr)
	if b != was {
		t.Errorf("Give(%d, %d, %v) changed the book", account, asset, amount)
	}
}

func takes(t *testing.T, b Book, account int, asset int, amount api.Wide) {
	t.Helper()
	was := b
	got, err := b.Take(account, asset, amount)
	want, wantErr := taken(b, account, asset, amount)
	same(t, "Take", got, err, want, wantErr)
	if b != was {
		t.Errorf("Take(%d, %d, %v) changed the book", account, asset, amount)
	}
}

func moves(t *testing.T, b Book, from int, to int, asset int, amount api.Wide) {
	t.Helper()
	was := b
	got, err := b.Move(from, to, asset, amount)
	want, wantErr := moved(b, from, to, asset, amount)
	same(t, "Move", got, err, want, wantErr)
	if b != was {
		t.Errorf("Move(%d, %d, %d, %v) changed the book", from, to, asset, amount)
	}
}

// totals fails unless Total answers what n is.
func totals(t *testing.T, b Book, asset int, n *big.Int) {
	t.Helper()
	want, fits := fromBig(n)
	if got, ok := b.Total(asset); got != want || ok != fits {
		t.Errorf("Total(%d) of %v = %v, %v; want %v, %v", asset, b, got, ok, want, fits)
	}
}

// Limits of the chapter that all here lean on.
func TestLimits(t *testing.T) {
	if api.Accounts != 8 || api.Assets != 2 || len(Book{}) != 8 || len(Book{}[0]) != 2 {
		t.Error("there are 8 accounts and 2 assets")
	}
}

// P11.1: the chapter's example, and a payment written out.
func TestWritten(t *testing.T) {
	b := Even(5)
	for asset := range 2 {
		if n, ok := b.Total(asset); n != (api.Wide{40}) || !ok {
			t.Errorf("Total(%d) = %v, %v", asset, n, ok)
		}
	}
	b, err := b.Move(0, 7, 1, api.Wide{2})
	want := Book{{{5}, {3}}, {{5}, {5}}, {{5}, {5}}, {{5}, {5}}, {{5}, {5}}, {{5}, {5}}, {{5}, {5}}, {{5}, {7}}}
	same(t, "Move", b, err, want, api.OK)
	b, err = b.Give(7, 0, api.Wide{0, 1})
	want[7][0] = api.Wide{5, 1}
	same(t, "Give", b, err, want, api.OK)
	b, err = b.Take(7, 0, api.Wide{6})
	want[7][0] = api.Wide{top}
	same(t, "Take", b, err, want, api.OK)
	b, err = b.Take(0, 1, api.Wide{4})
	same(t, "Take too much", b, err, want, api.ErrFunds)
}

// P11.1, Even: n of each for all, whatever n.
func TestEven(t *testing.T) {
	for _, n := range []uint64{0, 1, 2, 5, 255, 256, api.Coins, 1<<32 - 1, 1 << 32, 1 << 40, 1<<63 - 1, 1 << 63, top - 1, top} {
		a := api.Wide{n, 0, 0, 0}
		p := [2]api.Wide{a, a}
		if got := Even(n); got != (Book{p, p, p, p, p, p, p, p}) {
			t.Errorf("Even(%d) = %v", n, got)
		}
		for asset := range 2 {
			totals(t, Even(n), asset, new(big.Int).Mul(toBig(a), big.NewInt(8)))
		}
	}
}

// P11.1, Of: what stands there.
func TestOf(t *testing.T) {
	for _, b := range books() {
		for account := range 8 {
			for asset := range 2 {
				if got := b.Of(account, asset); got != b[account][asset] {
					t.Errorf("Of(%d, %d) = %v, want %v", account, asset, got, b[account][asset])
				}
			}
		}
	}
	if got := unlike().Of(3, 1); got != (api.Wide{0x0101010101 * 29, 0x0101010101 * 30, 0x0101010101 * 31, 0x0101010101 * 32}) {
		t.Errorf("Of(3, 1) = %x", got)
	}
}

// P11.1, Of: zero of others than there are, also where one of the two is there.
func TestOfOthers(t *testing.T) {
	for _, b := range []Book{unlike(), fullOf(most())} {
		for _, p := range noPlaces() {
			if got := b.Of(p[0], p[1]); got != (api.Wide{}) {
				t.Errorf("Of(%d, %d) = %v", p[0], p[1], got)
			}
		}
	}
}

// noPlaces are accounts and assets of which one is not there, or both are not.
func noPlaces() [][2]int {
	var l [][2]int
	for _, account := range noAccounts() {
		for asset := range 2 {
			l = append(l, [2]int{account, asset})
		}
		for _, asset := range noAssets() {
			l = append(l, [2]int{account, asset})
		}
	}
	for account := range 8 {
		for _, asset := range noAssets() {
			l = append(l, [2]int{account, asset})
		}
	}
	return l
}

// P11.1, Give and Take: that one's amount alone is more, or less, by it.
func TestGiveAndTake(t *testing.T) {
	for _, b := range books() {
		for account := range 8 {
			for asset := range 2 {
				for _, amount := range amounts() {
					gives(t, b, account, asset, amount)
					takes(t, b, account, asset, amount)
				}
			}
		}
	}
}

// P11.1, Give: up to 2^256 - 1 all goes in; with one more it is ErrOverflow, and the book is as it was.
func TestGiveTooMuch(t *testing.T) {
	for _, has := range amounts() {
		for account := range 8 {
			for asset := range 2 {
				b := unlike()
				b[account][asset] = has
				room, _ := minus(most(), has)
				got, err := b.Give(account, asset, room)
				full := b
				full[account][asset] = most()
				same(t, "Give what there is room for", got, err, full, api.OK)
				if over, ok := plus(room, api.Wide{1}); ok {
					got, err = b.Give(account, asset, over)
					same(t, "Give one more", got, err, b, api.ErrOverflow)
				}
				got, err = full.Give(account, asset, api.Wide{})
				same(t, "Give nothing", got, err, full, api.OK)
				got, err = full.Give(account, asset, most())
				same(t, "Give all", got, err, full, api.ErrOverflow)
			}
		}
	}
}

// P11.1, Take: all can be taken; with one more it is ErrFunds, and the book is as it was.
func TestTakeTooMuch(t *testing.T) {
	for _, has := range amounts() {
		for account := range 8 {
			for asset := range 2 {
				b := fullOf(most())
				b[account][asset] = has
				got, err := b.Take(account, asset, has)
				none := b
				none[account][asset] = api.Wide{}
				same(t, "Take all", got, err, none, api.OK)
				if over, ok := plus(has, api.Wide{1}); ok {
					got, err = b.Take(account, asset, over)
					same(t, "Take one more", got, err, b, api.ErrFunds)
				}
				got, err = none.Take(account, asset, api.Wide{})
				same(t, "Take nothing", got, err, none, api.OK)
				got, err = none.Take(account, asset, api.Wide{0, 0, 0, 1})
				same(t, "Take what others have", got, err, none, api.ErrFunds)
			}
		}
	}
}

// P11.1, Give, Take, Move: ErrRange of what is not there, ahead of too much and too little; the book is as it was.
func TestOfNoPlace(t *testing.T) {
	for _, b := range []Book{{}, unlike(), fullOf(most())} {
		for _, p := range noPlaces() {
			for _, amount := range []api.Wide{{}, {1}, most()} {
				got, err := b.Give(p[0], p[1], amount)
				same(t, "Give", got, err, b, api.ErrRange)
				got, err = b.Take(p[0], p[1], amount)
				same(t, "Take", got, err, b, api.ErrRange)
				for _, to := range []int{0, 7, -1, 8, p[0]} {
					got, err = b.Move(p[0], to, p[1], amount)
					same(t, "Move", got, err, b, api.ErrRange)
				}
			}
		}
	}
}

// P11.1, Move: of all to all, also to oneself.
func TestMove(t *testing.T) {
	for _, b := range books() {
		for from := range 8 {
			for to := range 8 {
				for asset := range 2 {
					for _, amount := range amounts() {
						moves(t, b, from, to, asset, amount)
					}
					moves(t, b, from, to, asset, b[from][asset])
				}
			}
		}
	}
}

// P11.1, Move: what Take tells of from goes ahead of what Give tells of to, ErrFunds of ErrRange too.
func TestMoveTellsOfFromFirst(t *testing.T) {
	for asset := range 2 {
		for from := range 8 {
			for _, to := range noAccounts() {
				b := alone(from, asset, api.Wide{10})
				got, err := b.Move(from, to, asset, api.Wide{11})
				same(t, "too little, to nobody", got, err, b, api.ErrFunds)
				got, err = b.Move(from, to, asset, api.Wide{10})
				same(t, "enough, to nobody", got, err, b, api.ErrRange)
				got, err = b.Move(from, to, asset, api.Wide{})
				same(t, "nothing, to nobody", got, err, b, api.ErrRange)
				got, err = b.Move(to, from, asset, api.Wide{1})
				same(t, "of nobody", got, err, b, api.ErrRange)
			}
			for to := range 8 {
				if to == from {
					continue
				}
				b := alone(from, asset, api.Wide{10})
				b[to][asset] = most()
				got, err := b.Move(from, to, asset, api.Wide{11})
				same(t, "too little, to one who is full", got, err, b, api.ErrFunds)
				got, err = b.Move(from, to, asset, api.Wide{10})
				same(t, "enough, to one who is full", got, err, b, api.ErrOverflow)
				got, err = b.Move(from, to, asset, api.Wide{1})
				same(t, "one, to one who is full", got, err, b, api.ErrOverflow)
				got, err = b.Move(from, to, asset, api.Wide{})
				same(t, "nothing, to one who is full", got, err, b, api.OK)
			}
		}
	}
}

// P11.1, Move: up to 2^256 - 1 all goes in.
func TestMoveWhereThereIsLittleRoom(t *testing.T) {
	for _, has := range amounts() {
		b := alone(6, 1, most())
		b[2][1] = has
		room, _ := minus(most(), has)
		got, err := b.Move(6, 2, 1, room)
		want := alone(6, 1, has)
		want[2][1] = most()
		same(t, "Move what there is room for", got, err, want, api.OK)
		if over, ok := plus(room, api.Wide{1}); ok {
			got, err = b.Move(6, 2, 1, over)
			same(t, "Move one more", got, err, b, api.ErrOverflow)
		}
	}
}

// P11.1, Move: to oneself is nothing, however much one has; but one has to have it.
func TestMoveToOneself(t *testing.T) {
	for account := range 8 {
		for asset := range 2 {
			full := fullOf(most())
			for _, amount := range amounts() {
				got, err := full.Move(account, account, asset, amount)
				same(t, "Move of one who is full", got, err, full, api.OK)
				b := unlike()
				b[account][asset] = amount
				got, err = b.Move(account, account, asset, amount)
				same(t, "Move of all", got, err, b, api.OK)
				if over, ok := plus(amount, api.Wide{1}); ok {
					got, err = b.Move(account, account, asset, over)
					same(t, "Move of one more", got, err, b, api.ErrFunds)
				}
			}
		}
	}
}

// P11.1, Total: the sum of all accounts, each counted once, of that asset alone.
func TestTotal(t *testing.T) {
	for _, b := range books() {
		for asset := range 2 {
			totals(t, b, asset, allOf(b, asset))
		}
	}
	for _, amount := range amounts() {
		for account := range 8 {
			for asset := range 2 {
				b := alone(account, asset, amount)
				totals(t, b, asset, toBig(amount))
				totals(t, b, 1-asset, new(big.Int))
			}
		}
	}
	var powers Book
	for account := range 8 {
		powers[account] = [2]api.Wide{{1 << account}, {0, 0, 0, 1 << (8 * account)}}
	}
	if n, ok := powers.Total(0); n != (api.Wide{255}) || !ok {
		t.Errorf("Total(0) = %v, %v", n, ok)
	}
	if n, ok := powers.Total(1); n != (api.Wide{0, 0, 0, 0x0101010101010101}) || !ok {
		t.Errorf("Total(1) = %x, %v", n, ok)
	}
}

// P11.1, Total: up to 2^256 - 1 it is told; zero and false where it overflows, whoever has what is too much, though the rest is left when it is wrapped round.
func TestTotalOverflows(t *testing.T) {
	for one := range 8 {
		for other := range 8 {
			for asset := range 2 {
				if one == other {
					continue
				}
				b := Even(0)
				for account := range 8 {
					b[account][1-asset] = api.Wide{7}
				}
				b[one][asset] = api.Wide{top - 5, top, top, top}
				b[other][asset] = api.Wide{5}
				totals(t, b, asset, toBig(most()))
				totals(t, b, 1-asset, big.NewInt(56))
				b[other][asset] = api.Wide{6}
				if n, ok := b.Total(asset); n != (api.Wide{}) || ok {
					t.Errorf("Total(%d) of 2^256 = %v, %v", asset, n, ok)
				}
				b[other][asset] = api.Wide{100}
				if n, ok := b.Total(asset); n != (api.Wide{}) || ok {
					t.Errorf("Total(%d) above 2^256 = %v, %v", asset, n, ok)
				}
				totals(t, b, 1-asset, big.NewInt(56))
			}
		}
	}
	eighth := fullOf(api.Wide{0, 0, 0, 1 << 61})
	if n, ok := eighth.Total(0); n != (api.Wide{}) || ok {
		t.Errorf("Total of eight eighths = %v, %v", n, ok)
	}
	eighth[7][0] = api.Wide{top, top, top, 1<<61 - 1}
	totals(t, eighth, 0, toBig(most()))
}

// P11.1, Total: zero and false of no such asset.
func TestTotalOfNoAsset(t *testing.T) {
	for _, b := range books() {
		for _, asset := range noAssets() {
			if n, ok := b.Total(asset); n != (api.Wide{}) || ok {
				t.Errorf("Total(%d) = %v, %v", asset, n, ok)
			}
		}
	}
}

// P11.2: moving leaves the total of both assets, also one that overflows, and whether the move can be or not.
func TestMovingLeavesTheTotal(t *testing.T) {
	r := rand.New(rand.NewSource(2))
	done := 0
	for range 40 {
		b := anyBook(r)
		before := [2]*big.Int{allOf(b, 0), allOf(b, 1)}
		for range 200 {
			from, to, asset := r.Intn(10)-1, r.Intn(10)-1, r.Intn(4)-1
			amount := anyAmount(r)
			if isOne(from, asset) && r.Intn(2) == 0 {
				amount = part(r, b[from][asset])
			}
			moves(t, b, from, to, asset, amount)
			next, err := b.Move(from, to, asset, amount)
			if err == api.OK && from != to && amount != (api.Wide{}) {
				done++
				if next == b {
					t.Fatalf("Move(%d, %d, %d, %v) moved nothing", from, to, asset, amount)
				}
			}
			b = next
			for each, n := range before {
				if allOf(b, each).Cmp(n) != 0 {
					t.Fatalf("Move(%d, %d, %d, %v): asset %d has another total", from, to, asset, amount, each)
				}
				totals(t, b, each, n)
			}
		}
	}
	if done < 1000 {
		t.Errorf("only %d moves could be", done)
	}
}

// part is some of an amount, or all of it.
func part(r *rand.Rand, a api.Wide) api.Wide {
	n := toBig(a)
	b, _ := fromBig(n.Rand(r, new(big.Int).Add(n, big.NewInt(1))))
	return b
}

// P11.2: moving to and fro leaves the book.
func TestMovedBack(t *testing.T) {
	for _, b := range books() {
		for from := range 8 {
			for to := range 8 {
				for asset := range 2 {
					for _, amount := range amounts() {
						there, err := b.Move(from, to, asset, amount)
						if err != api.OK {
							continue
						}
						back, err := there.Move(to, from, asset, amount)
						same(t, "moved back", back, err, b, api.OK)
					}
				}
			}
		}
	}
}

// P11.1: what is given can be taken, and what is taken given.
func TestGivenCanBeTaken(t *testing.T) {
	for _, b := range books() {
		for account := range 8 {
			for asset := range 2 {
				for _, amount := range amounts() {
					if more, err := b.Give(account, asset, amount); err == api.OK {
						back, err := more.Take(account, asset, amount)
						same(t, "taken again", back, err, b, api.OK)
					}
					if less, err := b.Take(account, asset, amount); err == api.OK {
						back, err := less.Give(account, asset, amount)
						same(t, "given again", back, err, b, api.OK)
					}
				}
			}
		}
	}
}

// anyNumber is a place most of the time, one next to it now and then, or any number at all.
func anyNumber(r *rand.Rand, places int) int {
	switch r.Intn(8) {
	case 0:
		return int(r.Uint64())
	case 1:
		return r.Intn(places+4) - 2
	}
	return r.Intn(places)
}

// P11.1, and P1 of DOC.md: of any books, numbers and amounts all calls answer as the second writing does.
func TestOfAny(t *testing.T) {
	r := rand.New(rand.NewSource(3))
	counts := map[api.Errno]int{}
	for range 30000 {
		b := anyBook(r)
		account, to, asset, amount := anyNumber(r, 8), anyNumber(r, 8), anyNumber(r, 2), anyAmount(r)
		// Else there is hardly ever too much.
		for _, one := range []int{account, to} {
			if isOne(one, asset) && r.Intn(3) == 0 {
				b[one][asset] = most()
			}
		}
		gives(t, b, account, asset, amount)
		takes(t, b, account, asset, amount)
		moves(t, b, account, to, asset, amount)
		_, err := b.Move(account, to, asset, amount)
		counts[err]++
		want, n := api.Wide{}, new(big.Int).Lsh(big.NewInt(1), 256)
		if isOne(account, asset) {
			want = b[account][asset]
		}
		if got := b.Of(account, asset); got != want {
			t.Errorf("Of(%d, %d) = %v, want %v", account, asset, got, want)
		}
		if isOne(0, asset) {
			n = allOf(b, asset)
		}
		totals(t, b, asset, n)
	}
	for _, err := range []api.Errno{api.OK, api.ErrRange, api.ErrFunds, api.ErrOverflow} {
		if counts[err] < 1000 {
			t.Errorf("only %d moves answered %d", counts[err], err)
		}
	}
}

// answers are all that a book answers about one place, laid side by side.
type answers struct {
	even    Book
	of      api.Wide
	given   Book
	giveErr api.Errno
	taken   Book
	takeErr api.Errno
	moved   Book
	moveErr api.Errno
	total   api.Wide
	fits    bool
}

func ask(b *Book, account int, to int, asset int, amount *api.Wide) answers {
	var a answers
	a.even = Even(amount[0])
	a.of = b.Of(account, asset)
	a.given, a.giveErr = b.Give(account, asset, *amount)
	a.taken, a.takeErr = b.Take(account, asset, *amount)
	a.moved, a.moveErr = b.Move(account, to, asset, *amount)
	a.total, a.fits = b.Total(asset)
	return a
}

// P11.3, P2 of DOC.md: the book that is asked and the amount stay, whatever is done to the answers; these stay, whatever is done to the book, the amount and other answers; and nothing is kept from call to call.
func TestMemory(t *testing.T) {
	amount := api.Wide{3}
	cases := []struct {
		b                  Book
		account, to, asset int
	}{
		{unlike(), 1, 6, 0},
		{unlike(), 4, 4, 1},
		{Even(2), 0, 1, 0},
		{fullOf(most()), 7, 0, 1},
		{unlike(), 8, 0, 0},
		{unlike(), 0, 8, 1},
		{unlike(), 0, 1, 2},
	}
	for _, c := range cases {
		b, a := c.b, amount
		first := ask(&b, c.account, c.to, c.asset, &a)
		if b != c.b || a != amount {
			t.Errorf("%v was changed", c)
		}
		second := ask(&b, c.account, c.to, c.asset, &a)
		want := second
		for _, book := range []*Book{&first.even, &first.given, &first.taken, &first.moved} {
			*book = fullOf(api.Wide{9, 9, 9, 9})
		}
		first.of, first.total = most(), most()
		if second != want || b != c.b || a != amount {
			t.Errorf("%v changes with an answer", c)
		}
		b, a = fullOf(api.Wide{8, 8, 8, 8}), api.Wide{8, 8, 8, 8}
		if second != want {
			t.Errorf("an answer changes with %v", c)
		}
		ask(&b, c.to, c.account, 1-c.asset, &a)
		b, a = c.b, amount
		if ask(&b, c.account, c.to, c.asset, &a) != want {
			t.Errorf("%v has another answer than ahead", c)
		}
	}
}
