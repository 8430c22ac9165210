package wide

import (
	"math/big"
	"math/rand"
	"slices"
	"testing"

	"narrows/api"
)

const maxWord = ^uint64(0)

func maxWide() api.Wide { return api.Wide{maxWord, maxWord, maxWord, maxWord} }

func toBig(a api.Wide) *big.Int {
	n := new(big.Int)
	for _, word := range slices.Backward(a[:]) {
		n.Lsh(n, 64).Or(n, new(big.Int).SetUint64(word))
	}
	return n
}

// fromBig is n and true; zero and false, if n is below 0, or 2^256 or more.
func fromBig(n *big.Int) (api.Wide, bool) {
	if n.Sign() < 0 || n.BitLen() > 256 {
		return api.Wide{}, false
	}
	var a api.Wide
	rest, word := new(big.Int).Set(n), new(big.Int)
	for i := range a {
		a[i] = word.And(rest, new(big.Int).SetUint64(maxWord)).Uint64()
		rest.Rsh(rest, 64)
	}
	return a, true
}

// edgeWords are those near which carries and comparisons go wrong.
func edgeWords() []uint64 {
	return []uint64{0, 1, 2, 3, 5, 10, 1<<32 - 1, 1 << 32, 1<<63 - 1, 1 << 63, maxWord - 1, maxWord}
}

// samples are edges and, from a fixed seed, numbers of every length.
func samples() []api.Wide {
	var l []api.Wide
	few := []uint64{0, 1, maxWord}
	for _, a := range few {
		for _, b := range few {
			for _, c := range few {
				for _, d := range few {
					l = append(l, api.Wide{a, b, c, d})
				}
			}
		}
	}
	for _, x := range edgeWords() {
		for i := range 4 {
			var a api.Wide
			a[i] = x
			l = append(l, a)
		}
	}
	r := rand.New(rand.NewSource(1))
	for i := range 60 {
		var a api.Wide
		for j := range i%4 + 1 {
			a[j] = r.Uint64()
		}
		l = append(l, a)
	}
	return l
}

func sampleWords() []uint64 {
	l := edgeWords()
	r := rand.New(rand.NewSource(2))
	for range 20 {
		l = append(l, r.Uint64(), uint64(r.Uint32()))
	}
	return l
}

// same fails the test unless got and ok are what n is, or zero and false where n is no wide number.
func same(t *testing.T, what string, got api.Wide, ok bool, n *big.Int) {
	t.Helper()
	want, fits := fromBig(n)
	if got != want || ok != fits {
		t.Errorf("%s: got %v, %v; want %v, %v", what, got, ok, want, fits)
	}
}

// P1.1, Of: the number is the lowest word.
func TestOf(t *testing.T) {
	for _, n := range sampleWords() {
		if got := Of(n); got != (api.Wide{n, 0, 0, 0}) {
			t.Errorf("Of(%d) = %v", n, got)
		}
	}
}

// P1.1, Cmp: the highest word that differs decides.
func TestCmp(t *testing.T) {
	cases := []struct {
		a, b api.Wide
		want int
	}{
		{api.Wide{}, api.Wide{}, 0},
		{Of(3), Of(5), -1},
		{Of(5), Of(3), 1},
		{maxWide(), maxWide(), 0},
		{api.Wide{maxWord, maxWord, maxWord, 0}, api.Wide{0, 0, 0, 1}, -1},
		{api.Wide{0, 1, 0, 0}, api.Wide{maxWord, 0, 0, 0}, 1},
		{api.Wide{0, 0, 0, maxWord}, api.Wide{0, 0, 0, 1}, 1},
	}
	for _, c := range cases {
		if got := Cmp(c.a, c.b); got != c.want {
			t.Errorf("Cmp(%v, %v) = %d, want %d", c.a, c.b, got, c.want)
		}
	}
	for _, a := range samples() {
		for _, b := range samples() {
			if got, want := Cmp(a, b), toBig(a).Cmp(toBig(b)); got != want {
				t.Errorf("Cmp(%v, %v) = %d, want %d", a, b, got, want)
			}
		}
	}
}

// P1.1, Add: a carry goes through all words; 2^256 is refused with a zero beside.
func TestAdd(t *testing.T) {
	cases := []struct {
		a, b, want api.Wide
		ok         bool
	}{
		{api.Wide{}, api.Wide{}, api.Wide{}, true},
		{Of(2), Of(3), Of(5), true},
		{Of(maxWord), Of(1), api.Wide{0, 1, 0, 0}, true},
		{api.Wide{maxWord, maxWord, maxWord, 0}, Of(1), api.Wide{0, 0, 0, 1}, true},
		{maxWide(), api.Wide{}, maxWide(), true},
		{maxWide(), Of(1), api.Wide{}, false},
		{Of(2), maxWide(), api.Wide{}, false},
		{maxWide(), maxWide(), api.Wide{}, false},
		{api.Wide{7, 0, 0, 1 << 63}, api.Wide{9, 0, 0, 1 << 63}, api.Wide{}, false},
	}
	for _, c := range cases {
		if got, ok := Add(c.a, c.b); got != c.want || ok != c.ok {
			t.Errorf("Add(%v, %v) = %v, %v; want %v, %v", c.a, c.b, got, ok, c.want, c.ok)
		}
	}
	for _, a := range samples() {
		for _, b := range samples() {
			got, ok := Add(a, b)
			same(t, "Add", got, ok, new(big.Int).Add(toBig(a), toBig(b)))
		}
	}
}

// P1.1, Sub: a borrow goes through all words; what would be below 0 is refused with a zero beside.
func TestSub(t *testing.T) {
	cases := []struct {
		a, b, want api.Wide
		ok         bool
	}{
		{api.Wide{}, api.Wide{}, api.Wide{}, true},
		{Of(5), Of(3), Of(2), true},
		{Of(3), Of(5), api.Wide{}, false},
		{api.Wide{}, Of(1), api.Wide{}, false},
		{api.Wide{0, 0, 0, 1}, Of(1), api.Wide{maxWord, maxWord, maxWord, 0}, true},
		{maxWide(), maxWide(), api.Wide{}, true},
		{api.Wide{9, 9, 9, 1}, api.Wide{0, 0, 0, 2}, api.Wide{}, false},
	}
	for _, c := range cases {
		if got, ok := Sub(c.a, c.b); got != c.want || ok != c.ok {
			t.Errorf("Sub(%v, %v) = %v, %v; want %v, %v", c.a, c.b, got, ok, c.want, c.ok)
		}
	}
	for _, a := range samples() {
		for _, b := range samples() {
			got, ok := Sub(a, b)
			same(t, "Sub", got, ok, new(big.Int).Sub(toBig(a), toBig(b)))
		}
	}
}

// P1.1, Mul: what goes over a word is carried; 2^256 is refused with a zero beside.
func TestMul(t *testing.T) {
	cases := []struct {
		a    api.Wide
		n    uint64
		want api.Wide
		ok   bool
	}{
		{Of(6), 7, Of(42), true},
		{maxWide(), 0, api.Wide{}, true},
		{maxWide(), 1, maxWide(), true},
		{maxWide(), 2, api.Wide{}, false},
		{maxWide(), maxWord, api.Wide{}, false},
		{api.Wide{}, maxWord, api.Wide{}, true},
		{Of(maxWord), maxWord, api.Wide{1, maxWord - 1, 0, 0}, true},
		{api.Wide{0, 0, 0, 1 << 63}, 2, api.Wide{}, false},
		{api.Wide{0, 0, 0, 1 << 62}, 2, api.Wide{0, 0, 0, 1 << 63}, true},
	}
	for _, c := range cases {
		if got, ok := Mul(c.a, c.n); got != c.want || ok != c.ok {
			t.Errorf("Mul(%v, %d) = %v, %v; want %v, %v", c.a, c.n, got, ok, c.want, c.ok)
		}
	}
	for _, a := range samples() {
		for _, n := range sampleWords() {
			got, ok := Mul(a, n)
			same(t, "Mul", got, ok, new(big.Int).Mul(toBig(a), new(big.Int).SetUint64(n)))
		}
	}
}

// P1.1, Div: how often, and what is left; by 0 all answers are zero and false.
func TestDiv(t *testing.T) {
	cases := []struct {
		a    api.Wide
		n    uint64
		want api.Wide
		left uint64
	}{
		{Of(17), 5, Of(3), 2},
		{Of(4), 5, api.Wide{}, 4},
		{api.Wide{}, 5, api.Wide{}, 0},
		{maxWide(), 1, maxWide(), 0},
		{maxWide(), maxWord, api.Wide{1, 1, 1, 1}, 0},
		{api.Wide{0, 0, 0, 1}, 2, api.Wide{0, 0, 1 << 63, 0}, 0},
		{api.Wide{1, 1, 0, 0}, 2, api.Wide{1 << 63, 0, 0, 0}, 1},
	}
	for _, c := range cases {
		if got, left, ok := Div(c.a, c.n); got != c.want || left != c.left || !ok {
			t.Errorf("Div(%v, %d) = %v, %d, %v; want %v, %d, true", c.a, c.n, got, left, ok, c.want, c.left)
		}
	}
	for _, a := range samples() {
		if got, left, ok := Div(a, 0); got != (api.Wide{}) || left != 0 || ok {
			t.Errorf("Div(%v, 0) = %v, %d, %v; want zeros and false", a, got, left, ok)
		}
		for _, n := range sampleWords() {
			if n == 0 {
				continue
			}
			often, left := new(big.Int).DivMod(toBig(a), new(big.Int).SetUint64(n), new(big.Int))
			got, rest, ok := Div(a, n)
			same(t, "Div", got, ok, often)
			if rest != left.Uint64() {
				t.Errorf("Div(%v, %d) leaves %d, want %d", a, n, rest, left)
			}
		}
	}
}

// P1.1, Bits: 0 of 0; else the place of the highest bit, from 1 on, in whatever word it is.
func TestBits(t *testing.T) {
	if got := Bits(api.Wide{}); got != 0 {
		t.Errorf("Bits of 0 = %d", got)
	}
	for place := range 256 {
		var power api.Wide
		power[place/64] = 1 << (place % 64)
		if got := Bits(power); got != place+1 {
			t.Errorf("Bits of 2^%d = %d", place, got)
		}
	}
	for _, a := range samples() {
		if got, want := Bits(a), toBig(a).BitLen(); got != want {
			t.Errorf("Bits(%v) = %d, want %d", a, got, want)
		}
	}
}

// P1.1, Small: the lowest word stands there even if it is not all.
func TestSmall(t *testing.T) {
	cases := []struct {
		a    api.Wide
		want uint64
		all  bool
	}{
		{api.Wide{}, 0, true},
		{Of(7), 7, true},
		{Of(maxWord), maxWord, true},
		{api.Wide{0, 1, 0, 0}, 0, false},
		{api.Wide{7, 1, 0, 0}, 7, false},
		{api.Wide{7, 0, 1, 0}, 7, false},
		{api.Wide{7, 0, 0, 1}, 7, false},
		{maxWide(), maxWord, false},
	}
	for _, c := range cases {
		if got, all := Small(c.a); got != c.want || all != c.all {
			t.Errorf("Small(%v) = %d, %v; want %d, %v", c.a, got, all, c.want, c.all)
		}
	}
	for _, a := range samples() {
		if got, all := Small(a); got != a[0] || all != toBig(a).IsUint64() {
			t.Errorf("Small(%v) = %d, %v", a, got, all)
		}
	}
}

// P1.1, Sum: of none 0, of many all of them; refused as Add, wherever it goes over.
func TestSum(t *testing.T) {
	cases := []struct {
		l    []api.Wide
		want api.Wide
		ok   bool
	}{
		{nil, api.Wide{}, true},
		{[]api.Wide{}, api.Wide{}, true},
		{[]api.Wide{maxWide()}, maxWide(), true},
		{[]api.Wide{Of(1), Of(2), Of(3)}, Of(6), true},
		{[]api.Wide{Of(maxWord), Of(maxWord), Of(2)}, api.Wide{0, 2, 0, 0}, true},
		{[]api.Wide{maxWide(), {}, {}}, maxWide(), true},
		{[]api.Wide{maxWide(), Of(1)}, api.Wide{}, false},
		{[]api.Wide{maxWide(), Of(1), Of(5)}, api.Wide{}, false},
		{[]api.Wide{Of(1), maxWide(), maxWide()}, api.Wide{}, false},
		{[]api.Wide{Of(5), Of(5), maxWide()}, api.Wide{}, false},
	}
	for _, c := range cases {
		if got, ok := Sum(c.l...); got != c.want || ok != c.ok {
			t.Errorf("Sum(%v) = %v, %v; want %v, %v", c.l, got, ok, c.want, c.ok)
		}
	}
	if got, ok := Sum(); got != (api.Wide{}) || !ok {
		t.Errorf("Sum() = %v, %v", got, ok)
	}
	l := samples()
	for from := range l {
		part := l[from:min(from+5, len(l))]
		total := new(big.Int)
		for _, a := range part {
			total.Add(total, toBig(a))
		}
		got, ok := Sum(part...)
		same(t, "Sum", got, ok, total)
	}
}

// Sum of very many: a carry into the second word is counted as often as it comes.
func TestSumOfMany(t *testing.T) {
	const many = 100000
	l := slices.Repeat([]api.Wide{Of(maxWord)}, many)
	want := new(big.Int).Mul(new(big.Int).SetUint64(maxWord), big.NewInt(many))
	got, ok := Sum(l...)
	same(t, "Sum", got, ok, want)
}

// P1.2: what is added can be taken away, from either end.
func TestAddedCanBeTakenAway(t *testing.T) {
	fitting := 0
	for _, a := range samples() {
		for _, b := range samples() {
			sum, ok := Add(a, b)
			if !ok {
				continue
			}
			fitting++
			if back, ok := Sub(sum, b); back != a || !ok {
				t.Errorf("Sub(%v, %v) = %v, %v; want %v", sum, b, back, ok, a)
			}
			if back, ok := Sub(sum, a); back != b || !ok {
				t.Errorf("Sub(%v, %v) = %v, %v; want %v", sum, a, back, ok, b)
			}
		}
	}
	if fitting < 1000 {
		t.Errorf("only %d sums fitted", fitting)
	}
}

// P1.2: what is multiplied can be divided again.
func TestMultipliedCanBeDivided(t *testing.T) {
	for _, a := range samples() {
		for _, n := range sampleWords() {
			product, ok := Mul(a, n)
			if !ok || n == 0 {
				continue
			}
			if back, left, ok := Div(product, n); back != a || left != 0 || !ok {
				t.Errorf("Div(%v, %d) = %v, %d, %v; want %v", product, n, back, left, ok, a)
			}
		}
	}
}

// callAll calls everything on a, b, n and l, and lays the answers side by side.
func callAll(a api.Wide, b api.Wide, n uint64, l []api.Wide) []any {
	var out []any
	add, addOk := Add(a, b)
	sub, subOk := Sub(a, b)
	mul, mulOk := Mul(a, n)
	div, left, divOk := Div(a, n)
	small, all := Small(a)
	sum, sumOk := Sum(l...)
	return append(out, Of(n), Cmp(a, b), add, addOk, sub, subOk, mul, mulOk,
		div, left, divOk, Bits(a), small, all, sum, sumOk)
}

// P1.3, P2 of DOC.md: arguments stay as they are, and nothing of them or of an answer is kept.
func TestMemory(t *testing.T) {
	l := samples()
	before := slices.Clone(l)
	for i, a := range l {
		b := l[len(l)-1-i]
		keptA, keptB := a, b
		first := callAll(a, b, a[0], l[i:])
		if a != keptA || b != keptB {
			t.Fatalf("arguments changed: %v, %v", a, b)
		}
		if again := callAll(a, b, a[0], l[i:]); !slices.Equal(first, again) {
			t.Fatalf("a second call with %v, %v answers %v, not %v", a, b, again, first)
		}
	}
	if !slices.Equal(l, before) {
		t.Error("Sum changed its list")
	}
}

// P1.3, P2 of DOC.md: an answer stays, whatever becomes of the list it came of, or of another answer.
func TestAnswersAreNewMemory(t *testing.T) {
	l := make([]api.Wide, 2, 8)
	l[0], l[1] = Of(1), Of(2)
	spare := l[:cap(l)]
	spare[2] = Of(9)
	first, _ := Sum(l...)
	if spare[2] != Of(9) {
		t.Error("Sum wrote behind its list")
	}
	l[0] = Of(100)
	second, _ := Sum(l...)
	first[0]++
	if first != Of(4) || second != Of(102) {
		t.Errorf("answers are %v and %v", first, second)
	}
}

// P1 and P3 of DOC.md: calls end without a panic on every pair of samples, also side by side.
func TestSideBySide(t *testing.T) {
	l := samples()
	want := callAll(l[7], l[50], l[50][0], l)
	done := make(chan bool)
	for range 8 {
		go func() {
			well := true
			for _, a := range l {
				for _, n := range edgeWords() {
					callAll(a, maxWide(), n, nil)
				}
				well = well && slices.Equal(want, callAll(l[7], l[50], l[50][0], l))
			}
			done <- well
		}()
	}
	for range 8 {
		if !<-done {
			t.Error("answers differ when calls run side by side")
		}
	}
}
