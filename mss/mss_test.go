package mss

import (
	"bytes"
	"crypto/sha256"
	"encoding/hex"
	"math"
	"math/rand"
	"slices"
	"strconv"
	"strings"
	"testing"

	"narrows/api"
	"narrows/ots"
)

// seeds are of no octets, of octets that are no letters, and longer than a block.
func seeds() []string {
	return []string{"", "\x00", "seed", "router\x02", "\xff\xfe\xfd", strings.Repeat("long", 50)}
}

// texts are empty ones, short ones, and one longer than a block.
func texts() [][]byte {
	return [][]byte{nil, {}, {0}, {255}, []byte("abc"), bytes.Repeat([]byte{7}, 5000)}
}

// noLeaves are next to the leaves that there are, as great as numbers can be, and with lowest octets that a leaf could have.
func noLeaves() []int {
	return []int{-1, -2, -8, -256, math.MinInt, 9, 10, 15, 16, 255, 256, 263, 1 << 16, 1 << 32, math.MaxInt}
}

func unhex(t *testing.T, s string) string {
	t.Helper()
	b, err := hex.DecodeString(s)
	if err != nil {
		t.Fatal(err)
	}
	return string(b)
}

// shortOf is the first 8 octets of the standard library's sum.
func shortOf(l ...string) string {
	sum := sha256.Sum256([]byte(strings.Join(l, "")))
	return string(sum[:8])
}

// treeOf is a key's tree: the root is 1, the two below n are 2n and 2n+1, the leaves are 8 to 15.
func treeOf(seed string) [16]string {
	var tree [16]string
	for leaf := range 8 {
		tree[8+leaf] = ots.Public(seed, leaf)
	}
	for n := 7; n > 0; n-- {
		tree[n] = shortOf(tree[2*n], tree[2*n+1])
	}
	return tree
}

func pathOf(seed string, leaf int) []string {
	tree := treeOf(seed)
	var l []string
	for n := 8 + leaf; n > 1; n /= 2 {
		l = append(l, tree[n^1])
	}
	return l
}

func signOf(seed string, leaf int, text []byte) string {
	return string([]byte{byte(leaf)}) + strings.Join(ots.Sign(seed, leaf, text), "") + strings.Join(pathOf(seed, leaf), "")
}

// mustSign is a true signature of text.
func mustSign(t *testing.T, seed string, leaf int, text []byte) string {
	t.Helper()
	sig, _, err := Sign(api.Key{Seed: seed, Next: leaf}, text)
	if err != api.OK {
		t.Fatalf("Sign with leaf %d: %d", leaf, err)
	}
	return sig
}

// refused fails unless sig is not valid, and the leaf beside the false is 0.
func refused(t *testing.T, what string, root string, text []byte, sig string) {
	t.Helper()
	if leaf, ok := Verify(root, text, sig); leaf != 0 || ok {
		t.Errorf("Verify %s = %d, %t", what, leaf, ok)
	}
}

// P5.1, Root: roots that are written out, and those of all seeds.
func TestRoot(t *testing.T) {
	want := []string{"7aefdcd0943d85da", "e9611bc723544f11", "99379a4b0d1d6339", "f8389e0e196a32ce", "3b9725b1e1c3f70a", "b70254e165ecf75f"}
	for i, seed := range seeds() {
		if got := Root(seed); got != unhex(t, want[i]) || got != treeOf(seed)[1] {
			t.Errorf("Root(%.20q) = %x, want %s", seed, got, want[i])
		}
	}
}

// P5.1, Root: unlike seeds have unlike roots.
func TestRootTellsApart(t *testing.T) {
	seen := map[string]bool{}
	for n := range 100 {
		seen[Root(strconv.Itoa(n))] = true
	}
	if len(seen) != 100 {
		t.Errorf("%d roots of 100 seeds", len(seen))
	}
}

// P5.1, Path: the paths of all leaves, written out.
func TestPath(t *testing.T) {
	want := []string{
		"f6349a743d122966 b5aaf3a56ad4afc0 3e7a12214274f0e9",
		"d449d3161c277793 b5aaf3a56ad4afc0 3e7a12214274f0e9",
		"a196d94c179845c6 2b314307a9b56185 3e7a12214274f0e9",
		"ad6d60724a5e8c0a 2b314307a9b56185 3e7a12214274f0e9",
		"67fac7c0b56e5d31 bfaf07257029267c 3fb8d93ceeb003da",
		"f5dafc10b2119371 bfaf07257029267c 3fb8d93ceeb003da",
		"43add2dd23bc034d f84a5d1f29301c48 3fb8d93ceeb003da",
		"fc36c5990cb8c37e f84a5d1f29301c48 3fb8d93ceeb003da",
	}
	for leaf, path := range want {
		var l []string
		for _, s := range strings.Fields(path) {
			l = append(l, unhex(t, s))
		}
		if got := Path("seed", leaf); !slices.Equal(got, l) {
			t.Errorf("Path(seed, %d) = %x, want %s", leaf, got, path)
		}
	}
	for _, seed := range seeds() {
		for leaf := range 8 {
			if got := Path(seed, leaf); !slices.Equal(got, pathOf(seed, leaf)) {
				t.Errorf("Path(%.20q, %d) = %x", seed, leaf, got)
			}
		}
	}
}

// P5.1, Path: nothing of a leaf that is not from 0 to 7.
func TestPathOfNoLeaf(t *testing.T) {
	for _, seed := range seeds() {
		for _, leaf := range append(noLeaves(), 8) {
			if got := Path(seed, leaf); len(got) != 0 {
				t.Errorf("Path(%.20q, %d) = %x", seed, leaf, got)
			}
		}
	}
}

// P5.1, Sign: signatures that are written out.
func TestSign(t *testing.T) {
	cases := []struct {
		leaf int
		text string
		want string
	}{
		{0, "", "00" +
			"81d649bd2a467e7916b6317fa8378e4392af5f8fe6bdc53b6b75f9447b7803eb03424ec8ea7e65f8a2d1d0243ff1f9e5fb230977aa602221c6572152" +
			"a3193fe7ae6514605d3b4d940a2a64f9a67b70491ebe0c79c0a1b3effeb6a2de6c035b06f7f2706173d9fb1554eb2455d20bbea0725c403b66289920" +
			"f6349a743d122966b5aaf3a56ad4afc03e7a12214274f0e9"},
		{5, "abc", "05" +
			"b52fa52cb28fda7adb5ae942fd9a097c7b47c24a41827b7574edcfb32a8c765a6a9f609a9ade7dead7a609c000f67303b0665ca181e434e5afb779f0" +
			"8c626a3385bf649d7441910eb165bd52e98e4279adabb73a38fc4d161f8d2e6e23b0070e4c43704bc2d7a2f432f62eb1441b58b9b04839801c7e50c1" +
			"f5dafc10b2119371bfaf07257029267c3fb8d93ceeb003da"},
		{7, "abc", "07" +
			"3bf4ececb6db1ddd7025af9f37a52b63b1124a4979985505091329eb00b034d052666d3ae50c4fcfc5e5e3538bc7ec488d66b2a62a4693c9e963360e" +
			"dc45fd8a9a40efc6235c2b3494abe0c1224e0b66a44cb1bb0ecb75c80fee861cec601b855b8c4ecaad99f2aaef543a4453b30ad9c7590d371ff9b159" +
			"fc36c5990cb8c37ef84a5d1f29301c483fb8d93ceeb003da"},
	}
	for _, c := range cases {
		sig, k, err := Sign(api.Key{Seed: "seed", Next: c.leaf}, []byte(c.text))
		if sig != unhex(t, c.want) || len(sig) != 145 {
			t.Errorf("Sign with leaf %d of %q = %x, want %s", c.leaf, c.text, sig, c.want)
		}
		if k != (api.Key{Seed: "seed", Next: c.leaf + 1}) || err != api.OK {
			t.Errorf("Sign with leaf %d leaves %#v, %d", c.leaf, k, err)
		}
	}
}

// P5.1, Sign: the leaf, its parts, its path, and the key with Next one more, of all seeds, leaves and texts.
func TestSignOfMany(t *testing.T) {
	for _, seed := range seeds() {
		for leaf := range 8 {
			for _, text := range texts() {
				sig, k, err := Sign(api.Key{Seed: seed, Next: leaf}, text)
				if sig != signOf(seed, leaf, text) || k != (api.Key{Seed: seed, Next: leaf + 1}) || err != api.OK {
					t.Fatalf("Sign(%.20q, %d, %.20x) = %x, %#v, %d", seed, leaf, text, sig, k, err)
				}
			}
		}
	}
}

// P5.1, Sign: ErrState of a key whose Next is not from 0 to 8, ErrFull at 8; beside an error all else is zero.
func TestSignOfWrongKeys(t *testing.T) {
	for _, seed := range seeds() {
		for _, next := range noLeaves() {
			if sig, k, err := Sign(api.Key{Seed: seed, Next: next}, []byte("abc")); sig != "" || k != (api.Key{}) || err != api.ErrState {
				t.Errorf("Sign(%.20q, %d) = %x, %#v, %d", seed, next, sig, k, err)
			}
		}
		if sig, k, err := Sign(api.Key{Seed: seed, Next: 8}, []byte("abc")); sig != "" || k != (api.Key{}) || err != api.ErrFull {
			t.Errorf("Sign(%.20q, 8) = %x, %#v, %d", seed, sig, k, err)
		}
	}
}

// P5.1 and P5.2: a key signs eight times, each time with the next leaf; the ninth time is ErrFull.
func TestEightSignatures(t *testing.T) {
	for _, seed := range seeds() {
		k, root := api.Key{Seed: seed}, Root(seed)
		for leaf := range 8 {
			text := []byte("text " + strconv.Itoa(leaf))
			sig, next, err := Sign(k, text)
			if err != api.OK || Leaf(sig) != leaf {
				t.Fatalf("signature %d of %.20q has leaf %d, %d", leaf, seed, Leaf(sig), err)
			}
			if got, ok := Verify(root, text, sig); got != leaf || !ok {
				t.Errorf("signature %d of %.20q: %d, %t", leaf, seed, got, ok)
			}
			k = next
		}
		if _, _, err := Sign(k, []byte("text 8")); err != api.ErrFull {
			t.Errorf("the ninth signature of %.20q: %d", seed, err)
		}
	}
}

// P5.2: what is signed is verified, whatever the seed, the leaf and the text.
func TestSignedIsVerified(t *testing.T) {
	for _, seed := range seeds() {
		root := Root(seed)
		for leaf := range 8 {
			for _, text := range texts() {
				if got, ok := Verify(root, text, mustSign(t, seed, leaf, text)); got != leaf || !ok {
					t.Fatalf("what %.20q signs with leaf %d of %.20x: %d, %t", seed, leaf, text, got, ok)
				}
			}
		}
	}
	root := Root("seed")
	for n := range 400 {
		text := []byte(strconv.Itoa(n))
		if got, ok := Verify(root, text, mustSign(t, "seed", n%8, text)); got != n%8 || !ok {
			t.Fatalf("what is signed of %q: %d, %t", text, got, ok)
		}
	}
}

// P5.1, Verify: a signature need not be of a key; whatever parts and path there are, it is valid for the root that they lead to.
func TestVerifyOfNobodysKey(t *testing.T) {
	r := rand.New(rand.NewSource(5))
	for n := range 200 {
		sig := make([]byte, 145)
		r.Read(sig)
		leaf, text := n%8, []byte(strconv.Itoa(n))
		sig[0] = byte(leaf)
		var parts []string
		for j := range 15 {
			parts = append(parts, string(sig[1+8*j:9+8*j]))
		}
		node := ots.Open(text, parts)
		for row := range 3 {
			other := string(sig[121+8*row : 129+8*row])
			if leaf/[]int{1, 2, 4}[row]%2 == 0 {
				node = shortOf(node, other)
			} else {
				node = shortOf(other, node)
			}
		}
		if got, ok := Verify(node, text, string(sig)); got != leaf || !ok {
			t.Fatalf("Verify of %x for its own root = %d, %t", sig, got, ok)
		}
		refused(t, "for another root", Root("seed"), text, string(sig))
	}
}

// P5.1, Verify: a signature with any one bit another is not valid.
func TestVerifyOfFlippedBits(t *testing.T) {
	text, root := []byte("abc"), Root("seed")
	for _, leaf := range []int{0, 5, 7} {
		sig := mustSign(t, "seed", leaf, text)
		for bit := range 145 * 8 {
			b := []byte(sig)
			b[bit/8] ^= 1 << (bit % 8)
			refused(t, "with bit "+strconv.Itoa(bit)+" another", root, text, string(b))
		}
	}
}

// P5.1, Verify: a leaf that is not below 8 is refused, also one whose path would be a true leaf's.
func TestVerifyOfWrongLeaves(t *testing.T) {
	text, root := []byte("abc"), Root("seed")
	for leaf := range 8 {
		sig := mustSign(t, "seed", leaf, text)
		for wrong := range 256 {
			if wrong != leaf {
				refused(t, "with leaf "+strconv.Itoa(wrong), root, text, string([]byte{byte(wrong)})+sig[1:])
			}
		}
	}
}

// P5.1, Verify: other than 145 octets are refused, though they begin or end with a signature.
func TestVerifyOfWrongLengths(t *testing.T) {
	text, root := []byte("abc"), Root("seed")
	for _, leaf := range []int{0, 7} {
		sig := mustSign(t, "seed", leaf, text)
		long := sig + sig + sig
		for n := range 300 {
			if n != 145 {
				refused(t, strconv.Itoa(n)+" octets of it", root, text, long[:n])
				refused(t, strconv.Itoa(n)+" octets up to its end", root, text, long[len(long)-n:])
			}
		}
		for _, wrong := range []string{sig + "\x00", "\x00" + sig, sig[:137], sig + "8 octets", strings.Repeat(sig, 10000)} {
			refused(t, strconv.Itoa(len(wrong))+" octets", root, text, wrong)
		}
	}
	refused(t, "no octets for no root", "", nil, "")
}

// P5.1, Verify: of another text, for another root, or with pieces in another order, a signature is not valid.
func TestVerifyOfOthers(t *testing.T) {
	text, root := []byte("abc"), Root("seed")
	for leaf := range 8 {
		sig := mustSign(t, "seed", leaf, text)
		for n := range 100 {
			refused(t, "of another text", root, []byte(strconv.Itoa(n)), sig)
		}
		for _, wrong := range []string{"", root[:7], root + "\x00", root + root, Root("seeds"), Path("seed", leaf)[2], ots.Public("seed", leaf)} {
			refused(t, "for another root", wrong, text, sig)
		}
		for piece := range 17 {
			at := 1 + 8*piece
			refused(t, "with swapped pieces", root, text, sig[:at]+sig[at+8:at+16]+sig[at:at+8]+sig[at+16:])
		}
		refused(t, "with another leaf's path", root, text, sig[:121]+strings.Join(Path("seed", (leaf+1)%8), ""))
		refused(t, "by another key", root, text, mustSign(t, "seeds", leaf, text))
	}
}

// P5.1, Leaf: the first octet, whatever is behind it; -1 of no octets.
func TestLeaf(t *testing.T) {
	if got := Leaf(""); got != -1 {
		t.Errorf("Leaf of no octets = %d", got)
	}
	for leaf := range 256 {
		for _, behind := range []string{"", "\x00", "\xff", strings.Repeat("x", 144), strings.Repeat("x", 5000)} {
			if got := Leaf(string([]byte{byte(leaf)}) + behind); got != leaf {
				t.Errorf("Leaf of %d octets that begin with %d = %d", 1+len(behind), leaf, got)
			}
		}
	}
}

// P5.3, P2 of DOC.md: no call changes what is handed in, nor what lies around it.
func TestArgumentsStay(t *testing.T) {
	for _, text := range texts() {
		whole := slices.Concat([]byte{0xa1, 0xa2}, text, bytes.Repeat([]byte{0xb1}, 200))
		part, before := whole[2:2+len(text)], slices.Clone(whole)
		k := api.Key{Seed: "seed", Next: 3}
		sig := mustSign(t, k.Seed, k.Next, part)
		Verify(Root("seed"), part, sig)
		Verify("", part, "")
		if _, _, err := Sign(k, part); err != api.OK || k != (api.Key{Seed: "seed", Next: 3}) {
			t.Fatalf("the key became %#v", k)
		}
		if !bytes.Equal(whole, before) {
			t.Fatalf("%x became %x", before, whole)
		}
	}
}

// P5.3, P2 of DOC.md: answers stay whatever becomes of arguments and of other answers, and those of later calls are as they were.
func TestAnswersAreNewMemory(t *testing.T) {
	given := []byte("abc")
	sig := mustSign(t, "seed", 6, given)
	for i := range given {
		given[i] ^= 0xff
	}
	if sig != signOf("seed", 6, []byte("abc")) {
		t.Error("a signature changed with its text")
	}
	for leaf := range 8 {
		path, other := Path("seed", leaf), Path("seed", leaf)
		for i := range other[:cap(other)] {
			other[:cap(other)][i] = "spoilt"
		}
		if !slices.Equal(path, pathOf("seed", leaf)) || !slices.Equal(Path("seed", leaf), pathOf("seed", leaf)) {
			t.Errorf("paths of leaf %d share memory", leaf)
		}
		if mustSign(t, "seed", leaf, given) != signOf("seed", leaf, given) || Root("seed") != treeOf("seed")[1] {
			t.Errorf("what was written into a path of leaf %d is in later answers", leaf)
		}
	}
}

// P1 and P3 of DOC.md: calls end without a panic on whatever is given, and answer the same again, also side by side.
func TestSideBySide(t *testing.T) {
	all := func() string {
		var out strings.Builder
		for _, seed := range append(seeds(), strings.Repeat("\x00", 10000)) {
			root := Root(seed)
			out.WriteString(root + strconv.Itoa(Leaf(seed)))
			for _, leaf := range append(noLeaves(), 0, 3, 7, 8) {
				sig, k, err := Sign(api.Key{Seed: seed, Next: leaf}, []byte(seed))
				out.WriteString(sig + k.Seed + strconv.Itoa(k.Next) + strconv.Itoa(int(err)) + strings.Join(Path(seed, leaf), ""))
				for _, s := range []string{sig, seed, "", root} {
					got, ok := Verify(root, []byte(seed), s)
					out.WriteString(strconv.Itoa(got) + strconv.FormatBool(ok))
				}
			}
		}
		return out.String()
	}
	want := all()
	done := make(chan bool)
	for range 4 {
		go func() { done <- all() == want }()
	}
	for range 4 {
		if !<-done {
			t.Error("answers differ when calls run side by side")
		}
	}
}
