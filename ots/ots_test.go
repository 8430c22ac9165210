package ots

import (
	"bytes"
	"crypto/sha256"
	"encoding/binary"
	"encoding/hex"
	"math"
	"math/rand"
	"slices"
	"strconv"
	"strings"
	"testing"
)

// Texts whose sums begin with three octets 0, and with three octets 255: all digits are the least, or the most.
const (
	leastText = "665782"
	mostText  = "34389900"
)

// leastDigits and mostDigits are theirs: 36 is 2, 1, 0, and 0 is 0, 0, 0.
func leastDigits() []int { return []int{0, 0, 0, 0, 0, 0, 0, 0, 0, 0, 0, 0, 2, 1, 0} }
func mostDigits() []int  { return []int{3, 3, 3, 3, 3, 3, 3, 3, 3, 3, 3, 3, 0, 0, 0} }

func random(r *rand.Rand, n int) []byte {
	b := make([]byte, n)
	r.Read(b)
	return b
}

// texts are empty ones, the extremes, and, from a fixed seed, others of many lengths.
func texts() [][]byte {
	l := [][]byte{nil, {}, {0}, {255}, []byte("abc"), []byte(leastText), []byte(mostText), bytes.Repeat([]byte{7}, 5000)}
	r := rand.New(rand.NewSource(1))
	for n := range 130 {
		l = append(l, random(r, n))
	}
	return l
}

// seeds are of no octets, of octets that are no letters, and longer than a block.
func seeds() []string {
	return []string{"", "\x00", "seed", "router\x02", "\xff\xfe\xfd", strings.Repeat("long", 50)}
}

// leaves are those at the edges, and those beyond them.
func leaves() []int {
	return []int{0, 1, 2, 7, 8, 255, 256, 258, 65534, 65535, -1, -256, math.MinInt, 65536, 65537, 1 << 24, math.MaxInt}
}

// nearestLeaf is what a leaf counts as.
func nearestLeaf(leaf int) int {
	switch {
	case leaf < 0:
		return 0
	case leaf > 65535:
		return 65535
	}
	return leaf
}

// shortOf is the first 8 octets of the standard library's sum.
func shortOf(l ...[]byte) string {
	sum := sha256.Sum256(bytes.Join(l, nil))
	return string(sum[:8])
}

func walkOf(s string, steps int) string {
	for ; steps > 0; steps-- {
		s = shortOf([]byte(s))
	}
	return s
}

// digitsOf reads the digits off bits that are written out.
func digitsOf(text []byte) []int {
	sum := sha256.Sum256(text)
	var written strings.Builder
	for _, x := range sum[:3] {
		part := strconv.FormatUint(uint64(x), 2)
		written.WriteString(strings.Repeat("0", 8-len(part)) + part)
	}
	var l []int
	total := 0
	for i := 0; i < 24; i += 2 {
		n, _ := strconv.ParseInt(written.String()[i:i+2], 2, 64)
		l = append(l, int(n))
		total += int(n)
	}
	rest := 36 - total
	return append(l, rest/16, rest/4%4, rest%4)
}

func beginOf(seed string, leaf int) []string {
	var l []string
	for j := range 15 {
		number := binary.BigEndian.AppendUint16(nil, uint16(nearestLeaf(leaf)))
		l = append(l, shortOf([]byte(seed), number, []byte{byte(j)}))
	}
	return l
}

func joinOf(parts []string) string {
	return shortOf([]byte(strings.Join(parts, "")))
}

func publicOf(seed string, leaf int) string {
	l := beginOf(seed, leaf)
	for j := range l {
		l[j] = walkOf(l[j], 3)
	}
	return joinOf(l)
}

func signOf(seed string, leaf int, text []byte) []string {
	l := beginOf(seed, leaf)
	for j, digit := range digitsOf(text) {
		l[j] = walkOf(l[j], digit)
	}
	return l
}

func unhex(t *testing.T, s string) string {
	t.Helper()
	b, err := hex.DecodeString(s)
	if err != nil {
		t.Fatal(err)
	}
	return string(b)
}

func unhexAll(t *testing.T, l ...string) []string {
	t.Helper()
	var out []string
	for _, s := range l {
		out = append(out, unhex(t, s))
	}
	return out
}

// P4.1, Digits: texts whose digits are written out.
func TestDigits(t *testing.T) {
	cases := []struct {
		text string
		want []int
	}{
		{"", []int{3, 2, 0, 3, 2, 3, 0, 0, 3, 0, 1, 0, 1, 0, 3}},
		{"abc", []int{2, 3, 2, 2, 1, 3, 2, 0, 0, 1, 1, 2, 1, 0, 1}},
		{"a", []int{3, 0, 2, 2, 2, 1, 1, 3, 2, 0, 0, 1, 1, 0, 3}},
		{"hello", []int{0, 2, 3, 0, 3, 3, 0, 2, 1, 0, 3, 1, 1, 0, 2}},
		{leastText, leastDigits()},
		{mostText, mostDigits()},
	}
	for _, c := range cases {
		if got := Digits([]byte(c.text)); !slices.Equal(got, c.want) {
			t.Errorf("Digits(%q) = %v, want %v", c.text, got, c.want)
		}
	}
	if got := Digits(nil); !slices.Equal(got, Digits([]byte{})) {
		t.Errorf("Digits(nil) = %v", got)
	}
}

// P4.1, Digits: 15 of 0 to 3; the last three are what the others leave of 36, whatever that is.
func TestDigitsOfMany(t *testing.T) {
	sums := map[int]bool{}
	check := func(text []byte) {
		got := Digits(text)
		if !slices.Equal(got, digitsOf(text)) || len(got) != 15 {
			t.Fatalf("Digits(%x) = %v, want %v", text, got, digitsOf(text))
		}
		total := 0
		for _, digit := range got[:12] {
			total += digit
		}
		if slices.Min(got) < 0 || slices.Max(got) > 3 || total+16*got[12]+4*got[13]+got[14] != 36 {
			t.Fatalf("Digits(%x) = %v", text, got)
		}
		sums[total] = true
	}
	for _, text := range texts() {
		check(text)
	}
	for n := range 20000 {
		check([]byte(strconv.Itoa(n)))
	}
	if len(sums) < 20 {
		t.Errorf("only %d sums of digits were met", len(sums))
	}
}

// P4.1, Digits: of two texts with unlike digits each has one that is lower than the other's, so that neither signature leads to the other.
func TestDigitsCannotAllRise(t *testing.T) {
	l := [][]byte{[]byte(leastText), []byte(mostText)}
	for n := range 300 {
		l = append(l, []byte(strconv.Itoa(n)))
	}
	for _, a := range l {
		for _, b := range l {
			first, second := Digits(a), Digits(b)
			lower := false
			for i := range first {
				lower = lower || second[i] < first[i]
			}
			if !lower && !slices.Equal(first, second) {
				t.Fatalf("the digits of %q, %v, can all rise to those of %q, %v", a, first, b, second)
			}
		}
	}
}

// P4.1, Walk: the so many-th link, the text itself being that of no step; steps that are too few or too many count as the nearest.
func TestWalk(t *testing.T) {
	cases := []struct {
		s     string
		links []string
	}{
		{"", []string{"", "e3b0c44298fc1c14", "5cc2267dff057e09", "b2f148303f51808a"}},
		{"abc", []string{"616263", "ba7816bf8f01cfea", "6eaca7757e4292c1", "2d39c547731bced6"}},
	}
	for _, c := range cases {
		for steps, link := range c.links {
			if got := Walk(c.s, steps); got != unhex(t, link) {
				t.Errorf("Walk(%q, %d) = %x, want %s", c.s, steps, got, link)
			}
		}
	}
	for _, s := range append(seeds(), "8 octets", strings.Repeat("x", 100000)) {
		for steps := range 4 {
			if got := Walk(s, steps); got != walkOf(s, steps) {
				t.Errorf("Walk(%.20q, %d) = %x", s, steps, got)
			}
		}
		for _, steps := range []int{-1, -2, -3, -4, -1 << 32, math.MinInt} {
			if got := Walk(s, steps); got != s {
				t.Errorf("Walk(%.20q, %d) = %x, not the text itself", s, steps, got)
			}
		}
		for _, steps := range []int{4, 5, 256, 1 << 32, math.MaxInt} {
			if got := Walk(s, steps); got != walkOf(s, 3) {
				t.Errorf("Walk(%.20q, %d) = %x, not the last link", s, steps, got)
			}
		}
	}
}

// P4.1, Walk: two walks, one behind the other, are one.
func TestWalkGoesOn(t *testing.T) {
	for _, s := range seeds() {
		for first := range 4 {
			for second := range 4 - first {
				if got := Walk(Walk(s, first), second); got != Walk(s, first+second) {
					t.Errorf("%.20q walked %d and %d is %x", s, first, second, got)
				}
			}
		}
	}
}

// P4.1, Begin: beginnings that are written out.
func TestBegin(t *testing.T) {
	cases := []struct {
		seed                string
		leaf                int
		first, second, last string
	}{
		{"", 0, "709e80c88487a241", "cf7605ed1bc735f6", "7654e92fcd606089"},
		{"seed", 0, "91c3c9d3211f17c7", "562510a1f3a5b9b3", "5fdb938f0e74a4a5"},
		{"seed", 1, "c43b8237d4cb4228", "ca2009fcae313e54", "f756b27dce9c6480"},
		{"seed", 258, "1def409b3241bf42", "7374c5e487f561e1", "7bd72ed7eb42a46d"},
		{"seed", 65535, "d29585d35fed9467", "f8be61678a17582a", "b95e440439381a04"},
	}
	for _, c := range cases {
		got := Begin(c.seed, c.leaf)
		if len(got) != 15 {
			t.Fatalf("Begin(%q, %d) has %d", c.seed, c.leaf, len(got))
		}
		want := unhexAll(t, c.first, c.second, c.last)
		if part := []string{got[0], got[1], got[14]}; !slices.Equal(part, want) {
			t.Errorf("Begin(%q, %d) = %x, want %x", c.seed, c.leaf, part, want)
		}
	}
}

// P4.1, Begin: of all seeds and leaves, a leaf that is too low or too high being the nearest.
func TestBeginOfMany(t *testing.T) {
	for _, seed := range seeds() {
		for _, leaf := range leaves() {
			got := Begin(seed, leaf)
			if !slices.Equal(got, beginOf(seed, leaf)) {
				t.Errorf("Begin(%.20q, %d) = %x, want %x", seed, leaf, got, beginOf(seed, leaf))
			}
			if !slices.Equal(got, Begin(seed, nearestLeaf(leaf))) {
				t.Errorf("Begin(%.20q, %d) is not that of the nearest leaf", seed, leaf)
			}
		}
	}
}

// P4.1, Begin: no two beginnings of a seed are one, nor are those of two seeds.
func TestBeginTellsApart(t *testing.T) {
	seen := map[string]bool{}
	for _, seed := range []string{"one", "two", "\x00"} {
		for leaf := range 300 {
			for _, part := range Begin(seed, leaf) {
				seen[part] = true
			}
		}
	}
	if len(seen) != 3*300*15 {
		t.Errorf("%d beginnings of %d", len(seen), 3*300*15)
	}
}

// P4.1, Public: Short of all ends.
func TestPublic(t *testing.T) {
	cases := []struct {
		seed string
		leaf int
		want string
	}{
		{"", 0, "02b3004455debf53"},
		{"seed", 0, "d449d3161c277793"},
		{"seed", 1, "f6349a743d122966"},
		{"seed", 258, "02f01a4fee646fe8"},
		{"seed", 65535, "eeb5893bba99a38c"},
		{"seed", 65536, "eeb5893bba99a38c"},
		{"seed", -1, "d449d3161c277793"},
	}
	for _, c := range cases {
		if got := Public(c.seed, c.leaf); got != unhex(t, c.want) {
			t.Errorf("Public(%q, %d) = %x, want %s", c.seed, c.leaf, got, c.want)
		}
	}
	for _, seed := range seeds() {
		for _, leaf := range leaves() {
			if got := Public(seed, leaf); got != publicOf(seed, leaf) || len(got) != 8 {
				t.Errorf("Public(%.20q, %d) = %x, want %x", seed, leaf, got, publicOf(seed, leaf))
			}
		}
	}
}

// P4.1, Sign: a signature that is written out, and those of the extremes.
func TestSign(t *testing.T) {
	want := unhexAll(t, "3bf4ececb6db1ddd", "7025af9f37a52b63", "b1124a4979985505", "091329eb00b034d0",
		"52666d3ae50c4fcf", "c5e5e3538bc7ec48", "8d66b2a62a4693c9", "e963360edc45fd8a", "9a40efc6235c2b34",
		"94abe0c1224e0b66", "a44cb1bb0ecb75c8", "0fee861cec601b85", "5b8c4ecaad99f2aa", "ef543a4453b30ad9",
		"c7590d371ff9b159")
	if got := Sign("seed", 7, []byte("abc")); !slices.Equal(got, want) {
		t.Errorf("Sign of abc = %x, want %x", got, want)
	}
	begin := Begin("seed", 3)
	least, most := slices.Clone(begin), slices.Clone(begin)
	least[12], least[13] = walkOf(begin[12], 2), walkOf(begin[13], 1)
	for j := range 12 {
		most[j] = walkOf(begin[j], 3)
	}
	if got := Sign("seed", 3, []byte(leastText)); !slices.Equal(got, least) {
		t.Errorf("Sign of the least text = %x, want %x", got, least)
	}
	if got := Sign("seed", 3, []byte(mostText)); !slices.Equal(got, most) {
		t.Errorf("Sign of the greatest text = %x, want %x", got, most)
	}
}

// P4.1, Sign: of all seeds and leaves, each part walked its digit.
func TestSignOfMany(t *testing.T) {
	for _, seed := range seeds() {
		for _, leaf := range leaves() {
			for _, text := range texts()[:30] {
				if got := Sign(seed, leaf, text); !slices.Equal(got, signOf(seed, leaf, text)) {
					t.Fatalf("Sign(%.20q, %d, %x) = %x", seed, leaf, text, got)
				}
			}
		}
	}
	for _, text := range texts() {
		if got := Sign("seed", 5, text); !slices.Equal(got, signOf("seed", 5, text)) {
			t.Errorf("Sign of %x = %x", text, got)
		}
	}
	if got := Sign("seed", 5, nil); !slices.Equal(got, Sign("seed", 5, []byte{})) {
		t.Errorf("Sign of nil = %x", got)
	}
}

// P4.1, Open: of whatever 15 parts of 8 octets, each is walked what is left to 3.
func TestOpen(t *testing.T) {
	r := rand.New(rand.NewSource(4))
	for _, text := range texts() {
		var parts, ends []string
		for j, digit := range digitsOf(text) {
			parts = append(parts, string(random(r, 8)))
			ends = append(ends, walkOf(parts[j], 3-digit))
		}
		if got := Open(text, parts); got != joinOf(ends) || len(got) != 8 {
			t.Errorf("Open(%x, %x) = %x, want %x", text, parts, got, joinOf(ends))
		}
	}
	same := slices.Repeat([]string{"8 octets"}, 15)
	if got := Open([]byte(mostText), same); got != joinOf(append(same[:12:12], slices.Repeat([]string{walkOf("8 octets", 3)}, 3)...)) {
		t.Errorf("Open of the greatest text = %x", got)
	}
}

// P4.1, Open: the empty text of too few parts, too many, and parts that are too short or too long, wherever they stand.
func TestOpenOfWrongParts(t *testing.T) {
	text := []byte("abc")
	parts := Sign("seed", 0, text)
	if Open(text, parts) == "" {
		t.Fatal("Open of true parts is empty")
	}
	for n := range 40 {
		l := slices.Concat(parts, parts, parts)[:n]
		if got := Open(text, l); (got != "") != (n == 15) {
			t.Errorf("Open of %d parts = %x", n, got)
		}
	}
	for _, l := range [][]string{nil, {}, make([]string, 15), {strings.Join(parts, "")}, slices.Repeat([]string{"8 octets"}, 70000)} {
		if got := Open(text, l); got != "" {
			t.Errorf("Open of %d parts = %x", len(l), got)
		}
	}
	for j := range parts {
		for _, wrong := range []string{"", "7 octet", "9 octets.", parts[j][:7], parts[j] + "\x00", strings.Repeat("x", 16), strings.Repeat("x", 264)} {
			l := slices.Clone(parts)
			l[j] = wrong
			if got := Open(text, l); got != "" {
				t.Errorf("Open with a part of %d octets at %d = %x", len(wrong), j, got)
			}
		}
	}
	// As many octets as there must be, but cut elsewhere.
	shifted := slices.Clone(parts)
	shifted[0], shifted[1] = parts[0]+parts[1][:1], parts[1][1:]
	if got := Open(text, shifted); got != "" {
		t.Errorf("Open of parts that are cut elsewhere = %x", got)
	}
}

// P4.2: what is signed opens to the public one.
func TestSignedOpensToPublic(t *testing.T) {
	for _, seed := range seeds() {
		for _, leaf := range leaves() {
			public := Public(seed, leaf)
			for _, text := range texts()[:40] {
				if got := Open(text, Sign(seed, leaf, text)); got != public {
					t.Fatalf("what %.20q signs with leaf %d of %x opens to %x, not %x", seed, leaf, text, got, public)
				}
			}
		}
	}
	public := Public("seed", 7)
	for n := range 3000 {
		text := []byte(strconv.Itoa(n))
		if got := Open(text, Sign("seed", 7, text)); got != public {
			t.Fatalf("what is signed of %q opens to %x, not %x", text, got, public)
		}
	}
}

// P4.2, the other way: of another text, seed or leaf, or with another part, a signature opens to another.
func TestOthersOpenToOthers(t *testing.T) {
	text := []byte("abc")
	public, parts := Public("seed", 7), Sign("seed", 7, text)
	for n := range 2000 {
		other := []byte(strconv.Itoa(n))
		if got := Open(other, parts); got == public {
			t.Errorf("what is signed of %q opens for %q, too", text, other)
		}
	}
	for j := range parts {
		for bit := range 64 {
			b := []byte(parts[j])
			b[bit/8] ^= 1 << (bit % 8)
			l := slices.Clone(parts)
			l[j] = string(b)
			if got := Open(text, l); got == public || got == "" {
				t.Errorf("with bit %d of part %d another it opens to %x", bit, j, got)
			}
		}
	}
	if swapped := slices.Concat(parts[1:2], parts[:1], parts[2:]); Open(text, swapped) == public {
		t.Error("parts may stand in another order")
	}
	for _, got := range []string{Open(text, Sign("seed", 8, text)), Open(text, Sign("seeds", 7, text)), Open(text, Sign("", 7, text))} {
		if got == public || got == "" {
			t.Errorf("another's signature opens to %x", got)
		}
	}
}

// P4.3, P2 of DOC.md: no call changes what is handed in, nor what lies around it.
func TestArgumentsStay(t *testing.T) {
	for _, text := range texts() {
		whole := slices.Concat([]byte{0xa1, 0xa2}, text, bytes.Repeat([]byte{0xb1}, 200))
		part, before := whole[2:2+len(text)], slices.Clone(whole)
		list := append(Sign("seed", 0, part), "behind", "behind")
		kept := slices.Clone(list)
		Digits(part)
		Open(part, list[:15])
		Open(part, list)
		Open(part, list[:14])
		if !bytes.Equal(whole, before) {
			t.Fatalf("%x became %x", before, whole)
		}
		if !slices.Equal(list, kept) {
			t.Fatalf("the parts became %x", list)
		}
	}
}

// P4.3, P2 of DOC.md: answers stay whatever becomes of arguments and of other answers, and those of later calls are as they were.
func TestAnswersAreNewMemory(t *testing.T) {
	for _, text := range texts() {
		given := slices.Clone(text)
		digits, begin, parts := Digits(given), Begin("seed", 9), Sign("seed", 9, given)
		opened := Open(given, parts)
		for i := range given {
			given[i] ^= 0xff
		}
		if !slices.Equal(digits, digitsOf(text)) || !slices.Equal(parts, signOf("seed", 9, text)) {
			t.Fatalf("answers of %x changed with it", text)
		}
		spoilInts(digits)
		spoilTexts(begin)
		spoilTexts(parts)
		if !slices.Equal(Digits(text), digitsOf(text)) || !slices.Equal(Begin("seed", 9), beginOf("seed", 9)) {
			t.Fatalf("what was written into answers of %x is in later ones", text)
		}
		if !slices.Equal(Sign("seed", 9, text), signOf("seed", 9, text)) || opened != publicOf("seed", 9) {
			t.Fatalf("what was written into parts of %x is in later ones", text)
		}
	}
}

// P4.3, P2 of DOC.md: two answers to one call share nothing.
func TestAnswersShareNothing(t *testing.T) {
	for _, text := range [][]byte{nil, []byte("abc"), []byte(leastText), []byte(mostText)} {
		digits, begin, parts := Digits(text), Begin("seed", 9), Sign("seed", 9, text)
		spoilInts(Digits(text))
		spoilTexts(Begin("seed", 9))
		spoilTexts(Sign("seed", 9, text))
		if !slices.Equal(digits, digitsOf(text)) || !slices.Equal(begin, beginOf("seed", 9)) || !slices.Equal(parts, signOf("seed", 9, text)) {
			t.Errorf("answers of %x share memory", text)
		}
	}
}

// spoilInts writes over all that l can reach, what lies behind its end included.
func spoilInts(l []int) {
	for i := range l[:cap(l)] {
		l[:cap(l)][i] = -99
	}
}

// spoilTexts writes over all that l can reach, what lies behind its end included.
func spoilTexts(l []string) {
	for i := range l[:cap(l)] {
		l[:cap(l)][i] = "spoilt"
	}
}

// P1 and P3 of DOC.md: calls end without a panic on whatever is given, and answer the same again, also side by side.
func TestSideBySide(t *testing.T) {
	all := func() string {
		var out strings.Builder
		for _, seed := range append(seeds(), strings.Repeat("\x00", 100000)) {
			for _, leaf := range leaves() {
				text := []byte(seed)
				parts := Sign(seed, leaf, text)
				for _, digit := range Digits(text) {
					out.WriteString(strconv.Itoa(digit) + Walk(seed, leaf-digit))
				}
				out.WriteString(strings.Join(Begin(seed, leaf), "") + strings.Join(parts, "") + Public(seed, leaf))
				out.WriteString(Open(text, parts) + Open(nil, parts) + Open(text, nil) + Open(text, parts[:leaf&15]))
			}
		}
		return out.String()
	}
	want := all()
	done := make(chan bool)
	for range 4 {
		go func() { done <- all() == want }()
	}
	for range 4 {
		if !<-done {
			t.Error("answers differ when calls run side by side")
		}
	}
}
