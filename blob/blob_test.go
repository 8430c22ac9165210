package blob

import (
	"bytes"
	"encoding/binary"
	"math"
	"math/big"
	"math/rand"
	"slices"
	"testing"

	"narrows/api"
)

const maxWord = ^uint64(0)

// numbers are edges of every octet on both sides of 0 and, from a fixed seed, some between them.
func numbers() []int {
	l := []int{0, 1, 2, 127, 128, 255, 256, 258, 65535, 65536, math.MaxInt, math.MinInt, math.MinInt + 1}
	for bit := range 63 {
		l = append(l, 1<<bit-1, 1<<bit, 1<<bit+1, -(1 << bit), -(1<<bit)-1, 1-1<<bit)
	}
	r := rand.New(rand.NewSource(1))
	for i := range 200 {
		l = append(l, int(r.Uint64())>>(i%64))
	}
	return l
}

// sizes are all that Num knows, and numbers on both sides of them.
func sizes() []int {
	return []int{math.MinInt, -9, -8, -1, 0, 1, 2, 3, 4, 5, 6, 7, 8, 9, 16, 64, math.MaxInt}
}

// texts are of every length up to 70, no octet of one like its neighbours, and some long ones.
func texts() [][]byte {
	l := [][]byte{nil, {}, {0}, {255}, bytes.Repeat([]byte{0}, 40), bytes.Repeat([]byte{255}, 40)}
	for n := range 71 {
		l = append(l, row(n))
	}
	r := rand.New(rand.NewSource(2))
	for range 40 {
		b := make([]byte, r.Intn(300))
		r.Read(b)
		l = append(l, b)
	}
	return l
}

// row is n octets that count up from 1.
func row(n int) []byte {
	b := make([]byte, n)
	for i := range b {
		b[i] = byte(i + 1)
	}
	return b
}

// wides are numbers with edges in every word and, from a fixed seed, some between them.
func wides() []api.Wide {
	l := []api.Wide{{}, {1}, {1, 2, 3, 4}, {maxWord, maxWord, maxWord, maxWord}}
	for bit := range 256 {
		var a api.Wide
		a[bit/64] = 1 << (bit % 64)
		l = append(l, a)
	}
	r := rand.New(rand.NewSource(3))
	for range 100 {
		l = append(l, api.Wide{r.Uint64(), r.Uint64(), r.Uint64(), r.Uint64()})
	}
	return l
}

// spoil writes over all that b can reach, what lies behind its end included.
func spoil(b []byte) {
	for i := range b[:cap(b)] {
		b[:cap(b)][i] ^= 0xff
	}
}

// framed is a copy of b with octets of its own ahead and behind, and those octets' whole.
func framed(b []byte) (whole []byte, part []byte) {
	whole = slices.Concat([]byte{0xa1, 0xa2}, b, []byte{0xb1, 0xb2, 0xb3})
	return whole, whole[2 : 2+len(b)]
}

// P2.1, Num: the highest octet first, and the lowest ones of the number.
func TestNum(t *testing.T) {
	cases := []struct {
		n, size int
		want    []byte
	}{
		{258, 3, []byte{0, 1, 2}},
		{258, 2, []byte{1, 2}},
		{258, 1, []byte{2}},
		{258, 0, nil},
		{258, -1, nil},
		{258, math.MinInt, nil},
		{258, 8, []byte{0, 0, 0, 0, 0, 0, 1, 2}},
		{258, 9, []byte{0, 0, 0, 0, 0, 0, 1, 2}},
		{258, math.MaxInt, []byte{0, 0, 0, 0, 0, 0, 1, 2}},
		{0, 0, nil},
		{0, 1, []byte{0}},
		{0, 8, []byte{0, 0, 0, 0, 0, 0, 0, 0}},
		{0x0102030405060708, 8, []byte{1, 2, 3, 4, 5, 6, 7, 8}},
		{0x0102030405060708, 7, []byte{2, 3, 4, 5, 6, 7, 8}},
		{0x0102030405060708, 4, []byte{5, 6, 7, 8}},
		{math.MaxInt, 8, []byte{127, 255, 255, 255, 255, 255, 255, 255}},
	}
	for _, c := range cases {
		if got := Num(c.n, c.size); !bytes.Equal(got, c.want) {
			t.Errorf("Num(%d, %d) = %v, want %v", c.n, c.size, got, c.want)
		}
	}
}

// P2.1, Num: of a number below 0 the octets are those of its two's complement.
func TestNumBelowZero(t *testing.T) {
	cases := []struct {
		n, size int
		want    []byte
	}{
		{-1, 8, []byte{255, 255, 255, 255, 255, 255, 255, 255}},
		{-1, 9, []byte{255, 255, 255, 255, 255, 255, 255, 255}},
		{-1, 3, []byte{255, 255, 255}},
		{-1, 0, nil},
		{-1, -5, nil},
		{-2, 1, []byte{254}},
		{-256, 2, []byte{255, 0}},
		{-258, 3, []byte{255, 254, 254}},
		{math.MinInt, 8, []byte{128, 0, 0, 0, 0, 0, 0, 0}},
		{math.MinInt, 7, []byte{0, 0, 0, 0, 0, 0, 0}},
	}
	for _, c := range cases {
		if got := Num(c.n, c.size); !bytes.Equal(got, c.want) {
			t.Errorf("Num(%d, %d) = %v, want %v", c.n, c.size, got, c.want)
		}
	}
}

// P2.1, Num against the library's, for all numbers and sizes.
func TestNumOfMany(t *testing.T) {
	for _, n := range numbers() {
		whole := binary.BigEndian.AppendUint64(nil, uint64(n))
		for _, size := range sizes() {
			want := whole[8-min(max(size, 0), 8):]
			if got := Num(n, size); !bytes.Equal(got, want) {
				t.Errorf("Num(%d, %d) = %v, want %v", n, size, got, want)
			}
		}
	}
}

// P2.1, Int: 0 of none, and what stands behind the seventh octet is not counted.
func TestInt(t *testing.T) {
	cases := []struct {
		b    []byte
		want int
	}{
		{nil, 0},
		{[]byte{}, 0},
		{[]byte{0}, 0},
		{[]byte{7}, 7},
		{[]byte{255}, 255},
		{[]byte{1, 2}, 258},
		{[]byte{0, 1, 2}, 258},
		{[]byte{2, 1, 0}, 131328},
		{[]byte{1, 2, 3, 4, 5, 6}, 0x010203040506},
		{[]byte{1, 2, 3, 4, 5, 6, 7}, 0x01020304050607},
		{[]byte{1, 2, 3, 4, 5, 6, 7, 8}, 0x01020304050607},
		{[]byte{1, 2, 3, 4, 5, 6, 7, 8, 9, 10}, 0x01020304050607},
		{[]byte{0, 0, 0, 0, 0, 0, 0, 1}, 0},
		{[]byte{255, 255, 255, 255, 255, 255, 255}, 1<<56 - 1},
		{bytes.Repeat([]byte{255}, 100), 1<<56 - 1},
	}
	for _, c := range cases {
		if got := Int(c.b); got != c.want {
			t.Errorf("Int(%v) = %d, want %d", c.b, got, c.want)
		}
	}
	for _, b := range texts() {
		want := new(big.Int).SetBytes(b[:min(len(b), 7)])
		if got := Int(b); int64(got) != want.Int64() {
			t.Errorf("Int(%v) = %d, want %d", b, got, want)
		}
	}
}

// P2.1, Wide: 32 octets, the highest word's highest octet first.
func TestWide(t *testing.T) {
	a := api.Wide{0x191a1b1c1d1e1f20, 0x1112131415161718, 0x090a0b0c0d0e0f10, 0x0102030405060708}
	if got := Wide(a); !bytes.Equal(got, row(32)) {
		t.Errorf("Wide(%v) = %v", a, got)
	}
	if got := Wide(api.Wide{}); !bytes.Equal(got, make([]byte, 32)) {
		t.Errorf("Wide of 0 = %v", got)
	}
	if got := Wide(api.Wide{258}); !bytes.Equal(got, append(make([]byte, 30), 1, 2)) {
		t.Errorf("Wide of 258 = %v", got)
	}
	for _, a := range wides() {
		n := new(big.Int)
		for _, word := range slices.Backward(a[:]) {
			n.Lsh(n, 64).Or(n, new(big.Int).SetUint64(word))
		}
		if got := Wide(a); !bytes.Equal(got, n.FillBytes(make([]byte, 32))) {
			t.Errorf("Wide(%v) = %v", a, got)
		}
	}
}

// P2.1, Unwide: the number of 32 octets; nothing of fewer or more.
func TestUnwide(t *testing.T) {
	want := api.Wide{0x191a1b1c1d1e1f20, 0x1112131415161718, 0x090a0b0c0d0e0f10, 0x0102030405060708}
	if got, ok := Unwide(row(32)); got != want || !ok {
		t.Errorf("Unwide of 1 to 32 = %v, %v", got, ok)
	}
	if got, ok := Unwide(make([]byte, 32)); got != (api.Wide{}) || !ok {
		t.Errorf("Unwide of zeros = %v, %v", got, ok)
	}
	if got, ok := Unwide(nil); got != (api.Wide{}) || ok {
		t.Errorf("Unwide of none = %v, %v", got, ok)
	}
	for n := range 130 {
		if n == 32 {
			continue
		}
		if got, ok := Unwide(row(n)); got != (api.Wide{}) || ok {
			t.Errorf("Unwide of %d octets = %v, %v; want zero and false", n, got, ok)
		}
	}
}

// P2.1, Unwide is back from Wide, and Wide from Unwide.
func TestWideThereAndBack(t *testing.T) {
	for _, a := range wides() {
		if got, ok := Unwide(Wide(a)); got != a || !ok {
			t.Errorf("%v comes back as %v, %v", a, got, ok)
		}
	}
	r := rand.New(rand.NewSource(4))
	for range 100 {
		b := make([]byte, 32)
		r.Read(b)
		a, ok := Unwide(b)
		if got := Wide(a); !bytes.Equal(got, b) || !ok {
			t.Errorf("%v comes back as %v, %v", b, got, ok)
		}
	}
}

// P2.1, Cat: all of them in their order, those without octets too.
func TestCat(t *testing.T) {
	cases := []struct {
		l    [][]byte
		want string
	}{
		{nil, ""},
		{[][]byte{}, ""},
		{[][]byte{nil}, ""},
		{[][]byte{{}, nil, {}}, ""},
		{[][]byte{[]byte("one")}, "one"},
		{[][]byte{[]byte("a"), []byte("bc"), []byte("def")}, "abcdef"},
		{[][]byte{[]byte("def"), []byte("bc"), []byte("a")}, "defbca"},
		{[][]byte{nil, []byte("a"), {}, []byte("b"), nil}, "ab"},
		{[][]byte{{0, 0}, {0}, {255}}, "\x00\x00\x00\xff"},
	}
	for _, c := range cases {
		if got := Cat(c.l...); string(got) != c.want {
			t.Errorf("Cat(%v) = %v, want %v", c.l, got, []byte(c.want))
		}
	}
	if got := Cat(); len(got) != 0 {
		t.Errorf("Cat() = %v", got)
	}
	if got, want := Cat(texts()...), bytes.Join(texts(), nil); !bytes.Equal(got, want) {
		t.Errorf("Cat of many = %v, want %v", got, want)
	}
	part := []byte("four")
	if got, want := Cat(slices.Repeat([][]byte{part}, 50000)...), bytes.Repeat(part, 50000); !bytes.Equal(got, want) {
		t.Error("Cat of very many")
	}
}

// P2.1, Cut: pieces of the size, the last one maybe shorter; without a size one piece, or none of none.
func TestCut(t *testing.T) {
	cases := []struct {
		b    string
		size int
		want []string
	}{
		{"", 1, nil},
		{"", 3, nil},
		{"", 0, nil},
		{"", -1, nil},
		{"", math.MinInt, nil},
		{"", math.MaxInt, nil},
		{"a", 1, []string{"a"}},
		{"abc", 1, []string{"a", "b", "c"}},
		{"abcdef", 2, []string{"ab", "cd", "ef"}},
		{"abcdef", 3, []string{"abc", "def"}},
		{"abcdef", 6, []string{"abcdef"}},
		{"abcdefg", 3, []string{"abc", "def", "g"}},
		{"abcdefg", 4, []string{"abcd", "efg"}},
		{"abcdefg", 6, []string{"abcdef", "g"}},
		{"abcdefg", 8, []string{"abcdefg"}},
		{"abcdefg", math.MaxInt, []string{"abcdefg"}},
		{"abcdefg", 0, []string{"abcdefg"}},
		{"abcdefg", -1, []string{"abcdefg"}},
		{"abcdefg", math.MinInt, []string{"abcdefg"}},
		{"a", 0, []string{"a"}},
	}
	for _, c := range cases {
		got := Cut([]byte(c.b), c.size)
		if !slices.EqualFunc(got, c.want, func(a []byte, b string) bool { return string(a) == b }) {
			t.Errorf("Cut(%q, %d) = %q, want %q", c.b, c.size, got, c.want)
		}
	}
	if got := Cut(nil, 3); len(got) != 0 {
		t.Errorf("Cut of nil = %v", got)
	}
	if got := Cut(nil, 0); len(got) != 0 {
		t.Errorf("Cut of nil without a size = %v", got)
	}
}

// P2.1, Cut of many: how many pieces there are, how long each is, and that they are all of it.
func TestCutOfMany(t *testing.T) {
	for _, b := range texts() {
		for size := 1; size <= len(b)+2; size++ {
			pieces := Cut(b, size)
			if want := (len(b) + size - 1) / size; len(pieces) != want {
				t.Fatalf("Cut of %d octets by %d has %d pieces, want %d", len(b), size, len(pieces), want)
			}
			for i, piece := range pieces {
				if want := min(size, len(b)-i*size); len(piece) != want {
					t.Errorf("Cut of %d octets by %d: piece %d has %d, want %d", len(b), size, i, len(piece), want)
				}
			}
			if got := Cat(pieces...); !bytes.Equal(got, b) {
				t.Errorf("Cut of %v by %d is together %v", b, size, got)
			}
		}
	}
}

// P2.2: numbers from 0 to 2^56 - 1 come back from seven octets, and what is not cut off from fewer.
func TestNumbersComeBack(t *testing.T) {
	l := []int{0, 1, 255, 256, 258, 1<<40 - 1, 1 << 40, 1<<48 + 1, 1<<55 - 1, 1 << 55, 1<<56 - 2, 1<<56 - 1}
	for bit := range 56 {
		l = append(l, 1<<bit-1, 1<<bit, 1<<bit+1)
	}
	r := rand.New(rand.NewSource(5))
	for i := range 500 {
		l = append(l, int(r.Uint64()&(1<<56-1))>>(i%56))
	}
	for _, n := range l {
		for size := range 8 {
			// Fewer octets than seven hold what is below 2^(8 size).
			if n>>(8*size) != 0 {
				continue
			}
			if got := Int(Num(n, size)); got != n {
				t.Errorf("%d comes back from %d octets as %d", n, size, got)
			}
		}
		if got := Int(Num(n, 7)); got != n {
			t.Errorf("%d comes back as %d", n, got)
		}
	}
}

// P2.2 has its bound: of 2^56 and of numbers below 0 the seven lowest octets come back.
func TestNumbersBeyondSevenOctets(t *testing.T) {
	for _, n := range numbers() {
		if got, want := Int(Num(n, 7)), n&(1<<56-1); got != want {
			t.Errorf("%d comes back as %d, want %d", n, got, want)
		}
	}
}

// P2.3, P2 of DOC.md: no call changes what is handed in, nor what lies around it.
func TestArgumentsStay(t *testing.T) {
	for _, b := range texts() {
		whole, part := framed(b)
		before := slices.Clone(whole)
		Int(part)
		Unwide(part)
		Cat(part, part)
		Cut(part, 3)
		Cut(part, 0)
		if !bytes.Equal(whole, before) {
			t.Fatalf("%v became %v", before, whole)
		}
	}
	list := [][]byte{row(3), nil, row(5), {}}
	list = append(list, row(7))[:4]
	before := slices.Clone(list[:5])
	Cat(list...)
	if !slices.EqualFunc(list[:5], before, func(a, b []byte) bool { return bytes.Equal(a, b) && (a == nil) == (b == nil) }) {
		t.Errorf("Cat's list became %v", list[:5])
	}
}

// P2.3, P2 of DOC.md: who writes into an answer writes into nothing that was handed in.
func TestAnswersShareNothingWithArguments(t *testing.T) {
	for _, b := range texts() {
		whole, part := framed(b)
		before := slices.Clone(whole)
		spoil(Cat(part))
		spoil(Cat(part, nil))
		spoil(Cat(nil, part, part))
		for _, size := range []int{-1, 0, 1, 3, 32, len(b), len(b) + 1} {
			for _, piece := range Cut(part, size) {
				spoil(piece)
			}
		}
		if !bytes.Equal(whole, before) {
			t.Fatalf("%v became %v", before, whole)
		}
	}
}

// P2.3, P2 of DOC.md: an answer stays, whatever becomes of what it came of.
func TestAnswersStay(t *testing.T) {
	for _, b := range texts() {
		_, part := framed(b)
		once, joined := Cat(part), Cat(part, part)
		whole, pieces := Cut(part, 0), Cut(part, 3)
		want := slices.Clone(part)
		spoil(part)
		if !bytes.Equal(once, want) || !bytes.Equal(joined, slices.Concat(want, want)) {
			t.Fatalf("Cat of %v became %v and %v", want, once, joined)
		}
		if !bytes.Equal(Cat(whole...), want) || !bytes.Equal(Cat(pieces...), want) {
			t.Fatalf("Cut of %v became %v and %v", want, whole, pieces)
		}
	}
}

// P2.3, P2 of DOC.md: no two pieces of one answer share memory, not even behind their ends.
func TestPiecesShareNothing(t *testing.T) {
	for _, b := range texts() {
		for _, size := range []int{1, 2, 3, 7, 8, 32} {
			pieces := Cut(b, size)
			for i := range pieces {
				spoil(pieces[i])
				rest := slices.Delete(slices.Clone(pieces), i, i+1)
				want := slices.Delete(slices.Collect(slices.Chunk(b, size)), i, i+1)
				if !slices.EqualFunc(rest, want, bytes.Equal) {
					t.Fatalf("writing into piece %d of %v made others %v", i, b, rest)
				}
				spoil(pieces[i])
			}
		}
	}
}

// P2.3, P2 of DOC.md: no two answers share memory.
func TestAnswersShareNothingWithEachOther(t *testing.T) {
	for _, n := range numbers() {
		first, second := Num(n, 5), Num(n, 5)
		want := slices.Clone(second)
		spoil(first)
		if third := Num(n, 5); !bytes.Equal(second, want) || !bytes.Equal(third, want) {
			t.Fatalf("Num(%d, 5) became %v, then %v", n, second, third)
		}
	}
	for _, a := range wides() {
		first, second := Wide(a), Wide(a)
		want := slices.Clone(second)
		spoil(first)
		if third := Wide(a); !bytes.Equal(second, want) || !bytes.Equal(third, want) {
			t.Fatalf("Wide(%v) became %v, then %v", a, second, third)
		}
	}
	for _, b := range texts() {
		first, second := Cat(b, b), Cat(b, b)
		cut, again := Cut(b, 4), Cut(b, 4)
		spoil(first)
		for _, piece := range cut {
			spoil(piece)
		}
		if !bytes.Equal(second, slices.Concat(b, b)) || !bytes.Equal(Cat(again...), b) {
			t.Fatalf("answers of %v became %v and %v", b, second, again)
		}
	}
}

// callAll calls everything and lays the answers one behind the other.
func callAll(n int, size int, a api.Wide, b []byte, l [][]byte) []byte {
	var out []byte
	out = append(out, Num(n, size)...)
	out = binary.BigEndian.AppendUint64(out, uint64(Int(b)))
	out = append(out, Wide(a)...)
	back, ok := Unwide(b)
	for _, word := range back {
		out = binary.BigEndian.AppendUint64(out, word)
	}
	if ok {
		out = append(out, 1)
	}
	out = append(out, Cat(l...)...)
	for _, piece := range Cut(b, size) {
		out = append(append(out, byte(len(piece))), piece...)
	}
	return out
}

// P1 and P3 of DOC.md: calls end without a panic on whatever is given, and answer the same again, also side by side.
func TestSideBySide(t *testing.T) {
	all := func() []byte {
		var out []byte
		for i, b := range texts() {
			for _, size := range sizes() {
				n := numbers()[i]
				out = append(out, callAll(n, size, wides()[i], b, texts()[i:min(i+3, len(texts()))])...)
			}
		}
		return out
	}
	want := all()
	done := make(chan bool)
	for range 4 {
		go func() { done <- bytes.Equal(all(), want) }()
	}
	for range 4 {
		if !<-done {
			t.Error("answers differ when calls run side by side")
		}
	}
}
