package hash

import (
	"bytes"
	"crypto/sha256"
	"encoding/binary"
	"encoding/hex"
	"math/rand"
	"slices"
	"strings"
	"testing"
)

// texts are of every length over three blocks and more, and longer ones on both sides of a block's end.
func texts() [][]byte {
	l := [][]byte{nil, {}, {0}, {0x80}, {255}, bytes.Repeat([]byte{0}, 64), bytes.Repeat([]byte{255}, 64), bytes.Repeat([]byte{0x80}, 120)}
	r := rand.New(rand.NewSource(1))
	for n := range 270 {
		l = append(l, random(r, n))
	}
	for _, n := range []int{1 << 10, 1 << 13, 1 << 16} {
		for _, more := range []int{-9, -8, -1, 0, 1, 55, 56} {
			l = append(l, random(r, n+more))
		}
	}
	return l
}

func random(r *rand.Rand, n int) []byte {
	b := make([]byte, n)
	r.Read(b)
	return b
}

// edges are the lengths near which the padding takes another block, or a text fills its own.
func edges() []int {
	return []int{0, 1, 54, 55, 56, 57, 62, 63, 64, 65, 118, 119, 120, 121, 127, 128, 129}
}

// lists are of no text, of one and of many, with empty ones among them.
func lists() [][][]byte {
	l := [][][]byte{nil, {}, {nil}, {{}}, {nil, {}, nil}, {[]byte("abc")}, {nil, []byte("abc")}, {[]byte("abc"), {}},
		{[]byte("a"), []byte("b"), []byte("c")}, {[]byte("a"), nil, []byte("bc"), {}}, {nil, nil, {0}, nil, {0, 0}}}
	r := rand.New(rand.NewSource(2))
	for n := range 40 {
		var parts [][]byte
		for range n {
			parts = append(parts, random(r, r.Intn(4)*r.Intn(30)))
		}
		l = append(l, parts)
	}
	return l
}

// spoil writes over all that b can reach, what lies behind its end included.
func spoil(b []byte) {
	for i := range b[:cap(b)] {
		b[:cap(b)][i] ^= 0xff
	}
}

// framed is a copy of b with octets of its own ahead and behind, and those octets' whole.
func framed(b []byte) (whole []byte, part []byte) {
	whole = slices.Concat([]byte{0xa1, 0xa2}, b, bytes.Repeat([]byte{0xb1}, 200))
	return whole, whole[2 : 2+len(b)]
}

// standard is the standard library's sum.
func standard(b []byte) []byte {
	sum := sha256.Sum256(b)
	return sum[:]
}

func unhex(t *testing.T, s string) []byte {
	t.Helper()
	b, err := hex.DecodeString(s)
	if err != nil {
		t.Fatal(err)
	}
	return b
}

// P3.1, Pad: how long it is at the edges, octet by octet where it matters.
func TestPadAtTheEdges(t *testing.T) {
	cases := []struct{ n, want int }{
		{0, 64}, {1, 64}, {54, 64}, {55, 64}, {56, 128}, {57, 128}, {62, 128}, {63, 128}, {64, 128}, {65, 128},
		{118, 128}, {119, 128}, {120, 192}, {121, 192}, {127, 192}, {128, 192}, {129, 192}, {183, 192}, {184, 256},
	}
	for _, c := range cases {
		if got := len(Pad(bytes.Repeat([]byte{7}, c.n))); got != c.want {
			t.Errorf("Pad of %d octets has %d, want %d", c.n, got, c.want)
		}
	}
	none := append([]byte{0x80}, make([]byte, 63)...)
	if got := Pad(nil); !bytes.Equal(got, none) {
		t.Errorf("Pad of nil = %v", got)
	}
	if got := Pad([]byte{}); !bytes.Equal(got, none) {
		t.Errorf("Pad of no octets = %v", got)
	}
	abc := unhex(t, "61626380"+strings.Repeat("00", 59)+"18")
	if got := Pad([]byte("abc")); !bytes.Equal(got, abc) {
		t.Errorf("Pad of abc = %x", got)
	}
	// 55 octets leave room for no zero, 56 for none in their block.
	full := bytes.Repeat([]byte{9}, 56)
	if got, want := Pad(full[:55]), slices.Concat(full[:55], []byte{0x80, 0, 0, 0, 0, 0, 0, 1, 0xb8}); !bytes.Equal(got, want) {
		t.Errorf("Pad of 55 octets = %x", got)
	}
	if got, want := Pad(full), slices.Concat(full, []byte{0x80}, make([]byte, 69), []byte{1, 0xc0}); !bytes.Equal(got, want) {
		t.Errorf("Pad of 56 octets = %x", got)
	}
}

// P3.1, Pad: the text itself, the mark, zeros, the length in bits; a multiple of 64, and no longer than it must be.
func TestPad(t *testing.T) {
	for _, b := range texts() {
		got := Pad(b)
		if len(got)%64 != 0 || len(got) < len(b)+9 || len(got) >= len(b)+9+64 {
			t.Fatalf("Pad of %d octets has %d", len(b), len(got))
		}
		if !bytes.HasPrefix(got, b) {
			t.Fatalf("Pad of %d octets does not begin with them", len(b))
		}
		behind, length := got[len(b):len(got)-8], got[len(got)-8:]
		if behind[0] != 0x80 || !bytes.Equal(behind[1:], make([]byte, len(behind)-1)) {
			t.Errorf("behind %d octets stands %x", len(b), behind)
		}
		if bits := binary.BigEndian.Uint64(length); bits != uint64(len(b))*8 {
			t.Errorf("Pad of %d octets tells %d bits", len(b), bits)
		}
	}
}

// P3.1, Pad: a length that takes four octets of the eight.
func TestPadOfLong(t *testing.T) {
	b := make([]byte, 1<<22+3)
	got := Pad(b)
	if want := []byte{0, 0, 0, 0, 2, 0, 0, 0x18}; !bytes.HasSuffix(got, want) || len(got) != 1<<22+64 {
		t.Errorf("Pad of %d octets has %d and ends with %x", len(b), len(got), got[len(got)-8:])
	}
}

// P3.1, Sum: the example, and texts whose sums the standard names.
func TestSum(t *testing.T) {
	cases := []struct{ text, want string }{
		{"", "e3b0c44298fc1c149afbf4c8996fb92427ae41e4649b934ca495991b7852b855"},
		{"a", "ca978112ca1bbdcafac231b39a23dc4da786eff8147c4e72b9807785afee48bb"},
		{"abc", "ba7816bf8f01cfea414140de5dae2223b00361a396177a9cb410ff61f20015ad"},
		{"message digest", "f7846f55cf23e14eebeab5b4e1550cad5b509e3348fbc4efa3a1413d393cb650"},
		{"abcdbcdecdefdefgefghfghighijhijkijkljklmklmnlmnomnopnopq",
			"248d6a61d20638b8e5c026930c3e6039a33ce45964ff2167f6ecedd419db06c1"},
		{"abcdefghbcdefghicdefghijdefghijkefghijklfghijklmghijklmnhijklmnoijklmnopjklmnopqklmnopqrlmnopqrsmnopqrstnopqrstu",
			"cf5b16a778af8380036ce59e7b0492370b249b11e8f07a51afac45037afee9d1"},
		{strings.Repeat("a", 1000000), "cdc76e5c9914fb9281a1c7e284d73e67f1809a48a497200e046d39ccc7112cd0"},
	}
	for _, c := range cases {
		if got := Sum([]byte(c.text)); !bytes.Equal(got, unhex(t, c.want)) {
			t.Errorf("Sum of %d octets, %.60q, = %x, want %s", len(c.text), c.text, got, c.want)
		}
	}
	if got := Sum(nil); !bytes.Equal(got, Sum([]byte{})) {
		t.Errorf("Sum of nil = %x", got)
	}
}

// P3.1, Sum: as the standard library's, at the edges and between them.
func TestSumAsTheStandards(t *testing.T) {
	for _, n := range edges() {
		for _, x := range []byte{0, 1, 0x7f, 0x80, 0xff} {
			b := bytes.Repeat([]byte{x}, n)
			if got, want := Sum(b), standard(b); !bytes.Equal(got, want) {
				t.Errorf("Sum of %d octets %d = %x, want %x", n, x, got, want)
			}
		}
	}
	for _, b := range texts() {
		if got, want := Sum(b), standard(b); !bytes.Equal(got, want) {
			t.Errorf("Sum of %d octets = %x, want %x", len(b), got, want)
		}
	}
	r := rand.New(rand.NewSource(3))
	for range 2000 {
		b := random(r, r.Intn(200))
		if got, want := Sum(b), standard(b); !bytes.Equal(got, want) {
			t.Errorf("Sum of %x = %x, want %x", b, got, want)
		}
	}
}

// P3.1, Sum: of texts that are one but for a bit, or for zeros behind them, the sums are not.
func TestSumTellsTextsApart(t *testing.T) {
	seen := map[string]bool{}
	for n := range 200 {
		seen[string(Sum(make([]byte, n)))] = true
	}
	for bit := range 8 * 70 {
		b := make([]byte, 70)
		b[bit/8] = 1 << (bit % 8)
		seen[string(Sum(b))] = true
	}
	if len(seen) != 200+8*70 {
		t.Errorf("%d sums of %d texts", len(seen), 200+8*70)
	}
}

// P3.1, Text: the sum of all together, octets and not hexadecimal digits.
func TestText(t *testing.T) {
	none := string(unhex(t, "e3b0c44298fc1c149afbf4c8996fb92427ae41e4649b934ca495991b7852b855"))
	for _, l := range [][][]byte{nil, {}, {nil}, {{}, nil, {}}} {
		if got := Text(l...); got != none {
			t.Errorf("Text(%v) = %x", l, got)
		}
	}
	if got := Text(); got != none {
		t.Errorf("Text() = %x", got)
	}
	abc := string(unhex(t, "ba7816bf8f01cfea414140de5dae2223b00361a396177a9cb410ff61f20015ad"))
	for _, l := range [][]string{{"abc"}, {"a", "bc"}, {"ab", "c"}, {"a", "b", "c"}, {"", "a", "", "bc", ""}} {
		var parts [][]byte
		for _, part := range l {
			parts = append(parts, []byte(part))
		}
		if got := Text(parts...); got != abc {
			t.Errorf("Text of %q = %x", l, got)
		}
	}
	if got := Text([]byte("c"), []byte("b"), []byte("a")); got != string(standard([]byte("cba"))) {
		t.Errorf("Text of c, b, a = %x", got)
	}
	for _, l := range lists() {
		want := string(standard(bytes.Join(l, nil)))
		if got := Text(l...); got != want || len(got) != 32 {
			t.Errorf("Text of %d texts = %x, want %x", len(l), got, want)
		}
	}
	for _, b := range texts() {
		if got := Text(b); got != string(Sum(b)) {
			t.Errorf("Text of %d octets = %x", len(b), got)
		}
	}
}

// P3.1, Short: the first 8 octets of Text.
func TestShort(t *testing.T) {
	if got, want := Short([]byte("abc")), string(unhex(t, "ba7816bf8f01cfea")); got != want {
		t.Errorf("Short of abc = %x", got)
	}
	if got, want := Short([]byte("ab"), nil, []byte("c")), string(unhex(t, "ba7816bf8f01cfea")); got != want {
		t.Errorf("Short of ab, none, c = %x", got)
	}
	none := string(unhex(t, "e3b0c44298fc1c14"))
	for _, l := range [][][]byte{nil, {}, {nil}, {{}, nil, {}}} {
		if got := Short(l...); got != none {
			t.Errorf("Short(%v) = %x", l, got)
		}
	}
	if got := Short(); got != none {
		t.Errorf("Short() = %x", got)
	}
	for _, l := range lists() {
		got := Short(l...)
		if got != Text(l...)[:8] || got != string(standard(bytes.Join(l, nil))[:8]) {
			t.Errorf("Short of %d texts = %x", len(l), got)
		}
	}
}

// P3.1, Text and Short of very many texts.
func TestTextOfMany(t *testing.T) {
	l := slices.Repeat([][]byte{[]byte("four"), nil}, 50000)
	want := string(standard(bytes.Repeat([]byte("four"), 50000)))
	if got := Text(l...); got != want {
		t.Errorf("Text of very many = %x, want %x", got, want)
	}
	if got := Short(l...); got != want[:8] {
		t.Errorf("Short of very many = %x, want %x", got, want[:8])
	}
}

// P3.2, P2 of DOC.md: no call changes what is handed in, nor what lies around it.
func TestArgumentsStay(t *testing.T) {
	for _, b := range texts() {
		whole, part := framed(b)
		before := slices.Clone(whole)
		Pad(part)
		Sum(part)
		Text(part)
		Text(part, part, nil)
		Short(part)
		Short(nil, part, part)
		if !bytes.Equal(whole, before) {
			t.Fatalf("%x became %x", before, whole)
		}
	}
	list := [][]byte{[]byte("one"), nil, []byte("two"), {}, []byte("behind")}
	before := slices.Clone(list)
	Text(list[:4]...)
	Short(list[:4]...)
	if !slices.EqualFunc(list, before, func(a, b []byte) bool { return bytes.Equal(a, b) && (a == nil) == (b == nil) }) {
		t.Errorf("the list became %q", list)
	}
}

// P3.2, P2 of DOC.md: who writes into an answer writes into nothing that was handed in.
func TestAnswersShareNothingWithArguments(t *testing.T) {
	for _, b := range texts() {
		whole, part := framed(b)
		before := slices.Clone(whole)
		spoil(Pad(part))
		spoil(Sum(part))
		if !bytes.Equal(whole, before) {
			t.Fatalf("%x became %x", before, whole)
		}
	}
}

// P3.2, P2 of DOC.md: an answer stays, whatever becomes of what it came of.
func TestAnswersStay(t *testing.T) {
	for _, b := range texts() {
		whole, part := framed(b)
		padded, sum, text, short := Pad(part), Sum(part), Text(part), Short(part, nil)
		want := slices.Clone(padded)
		spoil(whole)
		if !bytes.Equal(padded, want) {
			t.Fatalf("Pad of %d octets became %x", len(b), padded)
		}
		if !bytes.Equal(sum, standard(b)) || text != string(sum) || short != text[:8] {
			t.Fatalf("the sums of %d octets became %x, %x and %x", len(b), sum, text, short)
		}
	}
}

// P3.2, P2 of DOC.md: no two answers share memory, nor does one share any with what the program keeps.
func TestAnswersShareNothingWithEachOther(t *testing.T) {
	for _, b := range texts() {
		padded, sum := Pad(b), Sum(b)
		again, second := Pad(b), Sum(b)
		want := slices.Clone(again)
		spoil(padded)
		spoil(sum)
		if third := Pad(b); !bytes.Equal(again, want) || !bytes.Equal(third, want) {
			t.Fatalf("Pad of %d octets became %x, then %x", len(b), again, third)
		}
		if third := Sum(b); !bytes.Equal(second, standard(b)) || !bytes.Equal(third, second) {
			t.Fatalf("Sum of %d octets became %x, then %x", len(b), second, third)
		}
	}
}

// P1 and P3 of DOC.md: calls end without a panic on whatever is given, and answer the same again, also side by side.
func TestSideBySide(t *testing.T) {
	all := func() []byte {
		var out []byte
		for _, b := range texts() {
			out = slices.Concat(out, Pad(b)[len(b):], Sum(b))
		}
		for _, l := range lists() {
			out = slices.Concat(out, []byte(Text(l...)), []byte(Short(l...)))
		}
		return out
	}
	want := all()
	done := make(chan bool)
	for range 4 {
		go func() { done <- bytes.Equal(all(), want) }()
	}
	for range 4 {
		if !<-done {
			t.Error("answers differ when calls run side by side")
		}
	}
}
