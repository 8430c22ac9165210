package audit

import (
	"crypto/sha256"
	"encoding/binary"
	"fmt"
	"math"
	"math/rand"
	"slices"
	"strings"
	"sync"
	"testing"

	"narrows/api"
	"narrows/deal"
	"narrows/mss"
	"narrows/wide"
)

// A second writing of the chapter, on the standard library's sums, and without maps.

// number and words are numbers and texts as octets.
func number(n int) string {
	return string(binary.BigEndian.AppendUint64(nil, uint64(n))[2:])
}

func words(s string) string {
	return string(binary.BigEndian.AppendUint16(nil, uint16(len(s)))) + s
}

// keyOf is a transfer's key; that of what may not be is the empty text.
func keyOf(i api.Inv) string {
	ranges := [][3]int{{i.User, 0, 1}, {i.Router, 2, 3}, {i.Send, 0, 1}, {i.Recv, 0, 1}, {i.To, 0, 7}, {len(i.Root), 8, 8}, {len(i.Id), 1, 16}}
	for _, r := range ranges {
		if r[0] < r[1] || r[0] > r[2] {
			return ""
		}
	}
	s := words("inv") + number(i.User) + words(i.Root) + number(i.Router) + number(i.Send) + number(i.Recv) + number(i.To) + words(i.Id)
	sum := sha256.Sum256([]byte(s))
	return string(sum[:])
}

// payloadOf is what is signed for an act.
func payloadOf(act int, key string, fee api.Wide) string {
	if key == "" {
		return ""
	}
	s := words("act") + number(act) + words(key)
	for n := 3; n >= 0; n-- {
		s += string(binary.BigEndian.AppendUint64(nil, fee[n]))
	}
	return s
}

// short is the first 8 octets of the sum of all.
func short(l ...string) string {
	sum := sha256.Sum256([]byte(strings.Join(l, "")))
	return string(sum[:8])
}

// opens is the leaf by which sig is root's of text; -1, if it is not.
func opens(root string, text string, sig string) int {
	if len(sig) != 145 || sig[0] > 7 {
		return -1
	}
	sum := sha256.Sum256([]byte(text))
	bits := int(sum[0])<<16 | int(sum[1])<<8 | int(sum[2])
	var digits [15]int
	rest := 36
	for n := range 12 {
		digits[n] = bits >> (22 - 2*n) & 3
		rest -= digits[n]
	}
	digits[12], digits[13], digits[14] = rest>>4, rest>>2&3, rest&3
	var ends []string
	for n, digit := range digits {
		end := sig[1+8*n:][:8]
		for range 3 - digit {
			end = short(end)
		}
		ends = append(ends, end)
	}
	node, leaf := short(ends...), int(sig[0])
	for row, place := 0, leaf; row < 3; row, place = row+1, place/2 {
		other := sig[121+8*row:][:8]
		if place%2 == 0 {
			node = short(node, other)
		} else {
			node = short(other, node)
		}
	}
	if node != root {
		return -1
	}
	return leaf
}

// alike tells whether two uses are alike in all but the leaf.
func alike(a Use, b Use) bool {
	return a.Act == b.Act && a.Key == b.Key && a.Fee[0] == b.Fee[0] && a.Fee[1] == b.Fee[1] && a.Fee[2] == b.Fee[2] && a.Fee[3] == b.Fee[3]
}

// usesOf is what Of should answer.
func usesOf(l []api.Event, root string) []Use {
	var uses []Use
	for _, e := range l {
		if e.Tx.Kind != 5 && e.Tx.Kind != 6 || e.Tx.Inv.Root != root {
			continue
		}
		u := Use{Act: e.Tx.Kind - 4, Key: keyOf(e.Tx.Inv), Fee: e.Tx.Fee}
		u.Leaf = opens(root, payloadOf(u.Act, u.Key, u.Fee), e.Tx.Sig)
		met := u.Leaf < 0
		for _, v := range uses {
			met = met || v.Leaf == u.Leaf && alike(v, u)
		}
		if !met {
			uses = append(uses, u)
		}
	}
	return uses
}

// twiceOf is what Twice should answer.
func twiceOf(l []Use) []Use {
	var twice []Use
	for _, u := range l {
		for _, v := range l {
			if v.Leaf == u.Leaf && !alike(v, u) {
				twice = append(twice, u)
				break
			}
		}
	}
	return twice
}

// bothOf is what Both should answer.
func bothOf(l []Use) []string {
	var keys []string
	for place, u := range l {
		var acts [3]bool
		ahead := false
		for other, v := range l {
			if v.Key != u.Key {
				continue
			}
			ahead = ahead || other < place
			if v.Act == 1 || v.Act == 2 {
				acts[v.Act] = true
			}
		}
		if acts[1] && acts[2] && !ahead {
			keys = append(keys, u.Key)
		}
	}
	return keys
}

// leavesOf is what Leaves should answer.
func leavesOf(l []Use) int {
	var leaves []int
	for _, u := range l {
		leaves = append(leaves, u.Leaf)
	}
	slices.Sort(leaves)
	return len(slices.Compact(leaves))
}

// shown is uses, short.
func shown(l []Use) string {
	var b strings.Builder
	for _, u := range l {
		fmt.Fprintf(&b, "[%d %d %.4x %x]", u.Leaf, u.Act, u.Key, u.Fee)
	}
	return b.String()
}

// same tells it, if what the calls tell of uses is not what the second writing does.
func same(t *testing.T, what string, l []Use) {
	t.Helper()
	if got, want := Twice(l), twiceOf(l); !slices.Equal(got, want) {
		t.Fatalf("%s: Twice(%s) =\n%s; want\n%s", what, shown(l), shown(got), shown(want))
	}
	if got, want := Both(l), bothOf(l); !slices.Equal(got, want) {
		t.Fatalf("%s: Both(%s) =\n%x; want\n%x", what, shown(l), got, want)
	}
	if got, want := Leaves(l), leavesOf(l); got != want {
		t.Fatalf("%s: Leaves(%s) = %d; want %d", what, shown(l), got, want)
	}
}

// is tells it, if these are not the uses that events tell of a root, or the second writing tells others.
func is(t *testing.T, what string, l []api.Event, root string, want ...Use) {
	t.Helper()
	if got := Of(l, root); !slices.Equal(got, want) {
		t.Fatalf("%s: Of =\n%s; want\n%s", what, shown(got), shown(want))
	}
	if got := usesOf(l, root); !slices.Equal(got, want) {
		t.Fatalf("%s: the second writing tells\n%s; want\n%s", what, shown(got), shown(want))
	}
	same(t, what, want)
}

// numbers are numbers of any size.
func numbers() []int {
	return []int{math.MinInt, math.MinInt + 1, math.MinInt + 5, math.MinInt + 6, -1 << 40, -1 << 32, -1<<32 + 5, -256, -9, -8, -7, -6, -5, -4, -3, -2, -1,
		0, 1, 2, 3, 4, 5, 6, 7, 8, 9, 10, 16, 32, 255, 256, 261, 262, 1 << 32, 1<<32 + 5, 1<<32 + 6, 1 << 40, 1<<40 + 1, math.MaxInt - 1, math.MaxInt}
}

// codes are all errors, and numbers that no error has.
func codes() []api.Errno {
	l := []api.Errno{api.OK, api.ErrCount, api.ErrRange, api.ErrLong, api.ErrState, api.ErrFull, api.ErrKind, api.ErrNone, api.ErrSyntax, api.ErrDown, api.ErrNonce, api.ErrFee,
		api.ErrFunds, api.ErrVault, api.ErrStatus, api.ErrDigest, api.ErrExpiry, api.ErrSig, api.ErrAmount, api.ErrSender, api.ErrOverflow, api.ErrRoute}
	for _, n := range numbers() {
		l = append(l, api.Errno(n))
	}
	return l
}

// fees are none, the least, the greatest, and one in each word.
func fees() []api.Wide {
	return []api.Wide{{}, {1}, {2}, {1 << 63}, {0, 1}, {0, 0, 1}, {0, 0, 0, 1}, {0, 0, 0, 1 << 63}, {math.MaxUint64, math.MaxUint64, math.MaxUint64, math.MaxUint64}}
}

// mine is the root of the key of "seed".
var mine = sync.OnceValue(func() string { return mss.Root("seed") })

// trade is a transfer that may be, of that root.
func trade(id string) api.Inv {
	return api.Inv{User: 1, Root: mine(), Router: 3, Send: 0, Recv: 1, To: 5, Id: id}
}

// sign is the signature of a text by a leaf of a key.
func sign(t *testing.T, seed string, leaf int, text string) string {
	t.Helper()
	sig, _, err := mss.Sign(api.Key{Seed: seed, Next: leaf}, []byte(text))
	if err != api.OK {
		t.Fatalf("Sign with leaf %d: %d", leaf, err)
	}
	return sig
}

// bare is what came of a transaction for an act on a transfer, without a signature; n makes it another one in all fields that are not looked for.
func bare(act int, i api.Inv, fee api.Wide, n int) api.Event {
	x := api.Tx{From: n % 8, Nonce: n, Kind: 4 + act, Asset: n % 2, Amount: wide.Of(uint64(n)), Inv: i, Fee: fee}
	x.Var = api.Var{Amount: wide.Of(uint64(n) + 100), Expiry: 1000 + n}
	return api.Event{Time: 900 + n, Tx: x}
}

// event is the same, signed by that leaf of the key of "seed".
func event(t *testing.T, act int, i api.Inv, fee api.Wide, leaf int, n int) api.Event {
	t.Helper()
	e := bare(act, i, fee, n)
	e.Tx.Sig = sign(t, "seed", leaf, payloadOf(act, keyOf(i), fee))
	return e
}

// used is what Of tells of such an event.
func used(act int, i api.Inv, fee api.Wide, leaf int) Use {
	return Use{Leaf: leaf, Act: act, Key: keyOf(i), Fee: fee}
}

// P27.1, the chapter's example: of nothing nothing is told.
func TestExamples(t *testing.T) {
	for name, l := range map[string][]api.Event{"nil": nil, "empty": {}} {
		for _, root := range []string{"", "rootroot", mine(), strings.Repeat("r", 5000)} {
			is(t, name, l, root)
		}
	}
	for name, l := range map[string][]Use{"nil": nil, "empty": {}} {
		if len(Twice(l)) != 0 || len(Both(l)) != 0 || Leaves(l) != 0 {
			t.Errorf("%s: %s, %q, %d", name, shown(Twice(l)), Both(l), Leaves(l))
		}
		same(t, name, l)
	}
}

// The keys, payloads and signatures by which the tests look are those of layers 5 and 7.
func TestSecondWriting(t *testing.T) {
	for _, i := range append(wrong(), trade("a"), trade("sixteen octets i")) {
		if got, want := keyOf(i), deal.Key(i); got != want {
			t.Errorf("keyOf(%#v) = %x, want %x", i, got, want)
		}
		for act := 1; act <= 2; act++ {
			for _, fee := range fees() {
				text := payloadOf(act, keyOf(i), fee)
				if want := deal.Payload(act, keyOf(i), fee); text != string(want) {
					t.Errorf("payloadOf(%d, %#v, %v) = %x, want %x", act, i, fee, text, want)
				}
				sig := sign(t, "seed", act, text)
				if opens(mine(), text, sig) != act || opens(mine(), text+".", sig) != -1 {
					t.Errorf("of %x a signature opens otherwise", text)
				}
			}
		}
	}
}

// P27.1, Of: each leaf, each act, each fee of a transfer is told.
func TestOf(t *testing.T) {
	var all []api.Event
	var want []Use
	for leaf := range 8 {
		for act := 1; act <= 2; act++ {
			for n, fee := range fees() {
				e, u := event(t, act, trade("a"), fee, leaf, n), used(act, trade("a"), fee, leaf)
				is(t, fmt.Sprintf("leaf %d, act %d, fee %v", leaf, act, fee), []api.Event{e}, mine(), u)
				all, want = append(all, e), append(want, u)
			}
		}
	}
	is(t, "all", all, mine(), want...)
	slices.Reverse(all)
	slices.Reverse(want)
	is(t, "all, from behind", all, mine(), want...)
}

// P27.1, Of: kinds 5 and 6 are told, and no other, whatever is signed.
func TestKinds(t *testing.T) {
	for _, kind := range numbers() {
		for act := 1; act <= 2; act++ {
			e := event(t, act, trade("a"), wide.Of(1), 2, 0)
			e.Tx.Kind = kind
			var want []Use
			if kind == 4+act {
				want = append(want, used(act, trade("a"), wide.Of(1), 2))
			}
			is(t, fmt.Sprintf("kind %d with what is signed for act %d", kind, act), []api.Event{e}, mine(), want...)
		}
		// What the payload of that kind would be is signed, or the empty text.
		e := event(t, 1, trade("a"), wide.Of(1), 2, 0)
		e.Tx.Kind = kind
		for _, text := range []string{payloadOf(kind-4, keyOf(trade("a")), wide.Of(1)), string(deal.Payload(kind-4, keyOf(trade("a")), wide.Of(1))), ""} {
			e.Tx.Sig = sign(t, "seed", 2, text)
			if got := Of([]api.Event{e}, mine()); (len(got) == 1) != ((kind == 5 || kind == 6) && text != "") {
				t.Errorf("kind %d, %x: %s", kind, text, shown(got))
			}
		}
	}
}

// P27.1, Of: all events count, whatever came of them, and whoever sent them, with whatever data of a side.
func TestAllEvents(t *testing.T) {
	for act := 1; act <= 2; act++ {
		want := used(act, trade("a"), wide.Of(1), 3)
		for _, code := range codes() {
			e := event(t, act, trade("a"), wide.Of(1), 3, 5)
			e.Code = code
			is(t, fmt.Sprint("code ", code), []api.Event{e}, mine(), want)
		}
		for _, n := range numbers() {
			for place, set := range []func(e *api.Event){
				func(e *api.Event) { e.Time = n }, func(e *api.Event) { e.Tx.From = n }, func(e *api.Event) { e.Tx.Nonce = n }, func(e *api.Event) { e.Tx.Asset = n },
				func(e *api.Event) { e.Tx.Amount = wide.Of(uint64(n)) }, func(e *api.Event) { e.Tx.Var.Amount = wide.Of(uint64(n)) }, func(e *api.Event) { e.Tx.Var.Expiry = n },
			} {
				e := event(t, act, trade("a"), wide.Of(1), 3, 5)
				set(&e)
				is(t, fmt.Sprint("number ", n, " at ", place), []api.Event{e}, mine(), want)
			}
		}
	}
}

// P27.1, Of: only transfers with that root are told, and only what its own key signed.
func TestRoots(t *testing.T) {
	own, other := mine(), mss.Root("other")
	i, j := trade("a"), trade("a")
	j.Root = other
	one := used(1, i, wide.Of(1), 4)
	l := []api.Event{event(t, 1, i, wide.Of(1), 4, 0)}
	for _, root := range []string{"", other, own[:7], own + "\x00", "\x00" + own, own[:7] + string(own[7]^1), strings.Repeat("r", 5000), keyOf(i)} {
		is(t, fmt.Sprintf("root %q", root), l, root)
	}
	is(t, "its root", l, own, one)
	// Of another root's transfer: what this key signs counts for neither, what that one signs for its own.
	stolen, theirs := event(t, 1, j, wide.Of(1), 5, 0), event(t, 2, j, wide.Of(2), 5, 0)
	theirs.Tx.Sig = sign(t, "other", 6, payloadOf(2, keyOf(j), wide.Of(2)))
	l = append(l, stolen, theirs)
	is(t, "two roots, mine", l, own, one)
	is(t, "two roots, the other", l, other, used(2, j, wide.Of(2), 6))
	// And this root's, signed by the other key.
	e := event(t, 1, i, wide.Of(3), 4, 0)
	e.Tx.Sig = sign(t, "other", 4, payloadOf(1, keyOf(i), wide.Of(3)))
	is(t, "another key", []api.Event{e}, own)
	is(t, "another key, the other", []api.Event{e}, other)
	// Roots that no key has.
	for _, root := range []string{"", "short", "rootroot", strings.Repeat("r", 5000)} {
		e := event(t, 1, i, wide.Of(3), 4, 0)
		e.Tx.Inv.Root = root
		for _, text := range []string{"", payloadOf(1, keyOf(e.Tx.Inv), wide.Of(3))} {
			e.Tx.Sig = sign(t, "seed", 4, text)
			is(t, fmt.Sprintf("no key's root %.9q", root), []api.Event{e}, root)
			is(t, fmt.Sprintf("no key's root %.9q, mine", root), []api.Event{e}, own)
		}
	}
}

// P27.1, Of: what is not the signature of the payload, each octet of it, is none.
func TestSigs(t *testing.T) {
	whole := event(t, 1, trade("a"), wide.Of(1), 5, 0)
	sigs := []string{"", "sig", whole.Tx.Sig + "\x00", "\x00" + whole.Tx.Sig, whole.Tx.Sig + whole.Tx.Sig, strings.Repeat("s", 145), strings.Repeat("\x00", 145), strings.Repeat("s", 70000)}
	for place := range whole.Tx.Sig {
		b := []byte(whole.Tx.Sig)
		b[place] ^= 1 << (place % 8)
		sigs = append(sigs, string(b), whole.Tx.Sig[:place], whole.Tx.Sig[:place]+whole.Tx.Sig[place+1:])
	}
	for n := range 256 {
		if n != 5 {
			sigs = append(sigs, string([]byte{byte(n)})+whole.Tx.Sig[1:])
		}
	}
	for _, text := range []string{"", "abc", payloadOf(2, keyOf(trade("a")), wide.Of(1)), payloadOf(1, keyOf(trade("a")), wide.Of(2)), payloadOf(1, keyOf(trade("b")), wide.Of(1)), keyOf(trade("a"))} {
		sigs = append(sigs, sign(t, "seed", 5, text))
	}
	for n, sig := range sigs {
		e := whole
		e.Tx.Sig = sig
		is(t, fmt.Sprint("signature ", n), []api.Event{e}, mine())
		is(t, fmt.Sprint("signature ", n, ", and a whole one"), []api.Event{e, whole, e}, mine(), used(1, trade("a"), wide.Of(1), 5))
	}
}

// unlike are transfers that may be, each unlike trade("a") in one field.
func unlike() []api.Inv {
	var l []api.Inv
	for _, set := range []func(*api.Inv){
		func(i *api.Inv) { i.User = 0 }, func(i *api.Inv) { i.Router = 2 }, func(i *api.Inv) { i.Send = 1 }, func(i *api.Inv) { i.Recv = 0 },
		func(i *api.Inv) { i.To = 4 }, func(i *api.Inv) { i.Id = "b" }, func(i *api.Inv) { i.Id = "a\x00" },
	} {
		i := trade("a")
		set(&i)
		l = append(l, i)
	}
	return l
}

// wrong are transfers that may not be, each wrong in one field.
func wrong() []api.Inv {
	l := []api.Inv{{}}
	for _, set := range []func(*api.Inv){
		func(i *api.Inv) { i.User = 2 }, func(i *api.Inv) { i.User = -1 }, func(i *api.Inv) { i.Root = "" }, func(i *api.Inv) { i.Root += "s" },
		func(i *api.Inv) { i.Router = 1 }, func(i *api.Inv) { i.Router = 4 }, func(i *api.Inv) { i.Send = 2 }, func(i *api.Inv) { i.Send = -1 },
		func(i *api.Inv) { i.Recv = 2 }, func(i *api.Inv) { i.Recv = math.MinInt }, func(i *api.Inv) { i.To = 8 }, func(i *api.Inv) { i.To = math.MaxInt },
		func(i *api.Inv) { i.Id = "" }, func(i *api.Inv) { i.Id = "seventeen octets." }, func(i *api.Inv) { i.Id = strings.Repeat("i", 70000) },
	} {
		i := trade("a")
		set(&i)
		l = append(l, i)
	}
	return l
}

// P27.1, Of: a transfer is told by its key, in all of its fields; what is signed for one is not signed for another.
func TestTransfers(t *testing.T) {
	var all []api.Event
	var want []Use
	for n, i := range unlike() {
		e := event(t, 1, i, wide.Of(1), 0, n)
		all, want = append(all, e), append(want, used(1, i, wide.Of(1), 0))
		is(t, fmt.Sprint("unlike ", n), all, mine(), want...)
		e.Tx.Inv = trade("a")
		is(t, fmt.Sprint("signed for unlike ", n), []api.Event{e}, mine())
	}
	if got := Twice(want); !slices.Equal(got, want) {
		t.Errorf("Twice = %s; want all", shown(got))
	}
}

// P27.1, Of: of a transfer that may not be the key is the empty text, and so is what is signed.
func TestWrong(t *testing.T) {
	var all []api.Event
	for n, i := range wrong() {
		for act := 1; act <= 2; act++ {
			e := event(t, act, i, wide.Of(7), 6, n)
			e.Tx.Sig = sign(t, "seed", 6, "")
			var want []Use
			if i.Root == mine() {
				want = []Use{{Leaf: 6, Act: act, Fee: wide.Of(7)}}
				all = append(all, e)
			}
			is(t, fmt.Sprintf("wrong %d, act %d", n, act), []api.Event{e}, mine(), want...)
			is(t, fmt.Sprintf("wrong %d, act %d, its root", n, act), []api.Event{e}, i.Root, want...)
			// What is signed for the one that may be, or with an empty key, is not the empty text.
			for _, text := range []string{payloadOf(act, keyOf(trade("a")), wide.Of(7)), words("act") + number(act) + words("") + strings.Repeat("\x00", 31) + "\x07"} {
				e.Tx.Sig = sign(t, "seed", 6, text)
				is(t, fmt.Sprintf("wrong %d, act %d, another text", n, act), []api.Event{e}, mine())
			}
		}
	}
	if len(all) != 2*(len(wrong())-3) {
		t.Errorf("%d are of that root", len(all))
	}
	// All of them are alike.
	is(t, "all", all, mine(), Use{Leaf: 6, Act: 1, Fee: wide.Of(7)}, Use{Leaf: 6, Act: 2, Fee: wide.Of(7)})
	// And the empty text is nothing to one that may be.
	e := event(t, 1, trade("a"), wide.Of(7), 6, 0)
	e.Tx.Sig = sign(t, "seed", 6, "")
	is(t, "empty", []api.Event{e}, mine())
}

// P27.1, Of: each is told once, where it first stands, however often it is brought, by whomever.
func TestOnce(t *testing.T) {
	a, b, c := used(1, trade("a"), wide.Of(1), 0), used(2, trade("b"), wide.Of(0), 1), used(1, trade("c"), wide.Of(2), 2)
	brings := func(u Use, n int) api.Event {
		i := map[string]api.Inv{a.Key: trade("a"), b.Key: trade("b"), c.Key: trade("c")}[u.Key]
		e := event(t, u.Act, i, u.Fee, u.Leaf, n)
		e.Code = codes()[n%7]
		return e
	}
	for _, order := range [][]Use{{a, b, c}, {a, c, b}, {b, a, c}, {b, c, a}, {c, a, b}, {c, b, a}} {
		x, y, z := order[0], order[1], order[2]
		for _, places := range [][]Use{{x, y, z}, {x, x, y, z}, {x, y, x, z, y}, {x, y, y, y, x, z, z, x, y, z}, {x, x, x, x, y, y, z, y, x}} {
			var l []api.Event
			for n, u := range places {
				l = append(l, brings(u, n))
			}
			is(t, shown(places), l, mine(), x, y, z)
		}
	}
	// Alike in all but one field, each is another one; a signature that is unlike is not, if its leaf is the same.
	var l []api.Event
	var want []Use
	for _, u := range []Use{a, {Leaf: 7, Act: a.Act, Key: a.Key, Fee: a.Fee}, {Leaf: a.Leaf, Act: 2, Key: a.Key, Fee: a.Fee}, {Leaf: a.Leaf, Act: a.Act, Key: b.Key, Fee: a.Fee}, {Leaf: a.Leaf, Act: a.Act, Key: a.Key, Fee: b.Fee}} {
		l, want = append(l, brings(u, 3)), append(want, u)
	}
	is(t, "unlike in one field", append(l, l...), mine(), want...)
}

// P27.1, Of: one signature that is valid for two payloads is told of both, and its leaf is there twice.
func TestOneSigForTwo(t *testing.T) {
	met := map[[3]byte]uint64{}
	for n := uint64(0); ; n++ {
		sum := sha256.Sum256([]byte(payloadOf(1, keyOf(trade("a")), wide.Of(n))))
		m, ok := met[[3]byte(sum[:])]
		met[[3]byte(sum[:])] = n
		if !ok {
			continue
		}
		first := event(t, 1, trade("a"), wide.Of(m), 3, 0)
		second := first
		second.Tx.Fee = wide.Of(n)
		want := []Use{used(1, trade("a"), wide.Of(m), 3), used(1, trade("a"), wide.Of(n), 3)}
		is(t, "one signature", []api.Event{first, second}, mine(), want...)
		if got := Twice(want); !slices.Equal(got, want) {
			t.Errorf("Twice = %s", shown(got))
		}
		return
	}
}

// P27.1, Twice: those whose leaf another one has that is unlike in act, key or fee; in order, each as often as it stands there.
func TestTwice(t *testing.T) {
	a := Use{Leaf: 3, Act: 1, Key: "a", Fee: wide.Of(1)}
	moved := a
	moved.Leaf = 4
	for place, other := range []Use{
		{3, 2, "a", wide.Of(1)}, {3, 0, "a", wide.Of(1)}, {3, math.MinInt, "a", wide.Of(1)}, {3, 1, "", wide.Of(1)}, {3, 1, "b", wide.Of(1)}, {3, 1, "a\x00", wide.Of(1)},
		{3, 1, "a", wide.Of(0)}, {3, 1, "a", wide.Of(2)}, {3, 1, "a", api.Wide{1, 1}}, {3, 1, "a", api.Wide{1, 0, 1}}, {3, 1, "a", api.Wide{1, 0, 0, 1}}, {3, 2, "b", wide.Of(2)},
	} {
		for _, x := range []struct{ l, want []Use }{
			{[]Use{a, other}, []Use{a, other}},
			{[]Use{other, a}, []Use{other, a}},
			{[]Use{moved, a, moved, other, moved}, []Use{a, other}},
			{[]Use{a, a, moved, other, a}, []Use{a, a, other, a}},
			{[]Use{other, other, a, moved, moved, other}, []Use{other, other, a, other}},
			{[]Use{moved, other}, nil},
			{[]Use{other, other}, nil},
		} {
			if got := Twice(x.l); !slices.Equal(got, x.want) {
				t.Errorf("%d: Twice(%s) = %s; want %s", place, shown(x.l), shown(got), shown(x.want))
			}
			same(t, "twice", x.l)
		}
	}
	// The same again, by whatever leaf, is not unlike.
	for _, l := range [][]Use{{a}, {a, a}, {a, a, a, a}, {a, moved}, {moved, a, a, moved}, {{}, {}}} {
		if got := Twice(l); len(got) != 0 {
			t.Errorf("Twice(%s) = %s", shown(l), shown(got))
		}
		same(t, "not twice", l)
	}
}

// P27.1, Both: the keys that have an act 1 and an act 2, by whatever leaf and fee, each once, in the order in which keys first stand there.
func TestBoth(t *testing.T) {
	use := func(act int, key string) Use {
		return Use{Leaf: act + len(key), Act: act, Key: key, Fee: wide.Of(uint64(act))}
	}
	for _, x := range []struct {
		l    []Use
		want []string
	}{
		{[]Use{use(1, "a")}, nil},
		{[]Use{use(2, "a")}, nil},
		{[]Use{use(1, "a"), use(1, "a"), use(1, "b"), use(2, "c"), use(2, "c")}, nil},
		{[]Use{use(1, "a"), use(2, "a")}, []string{"a"}},
		{[]Use{use(2, "a"), use(1, "a")}, []string{"a"}},
		{[]Use{use(1, "a"), use(2, "a"), use(1, "a"), use(2, "a")}, []string{"a"}},
		{[]Use{use(1, "a"), use(2, "b"), use(2, "a"), use(1, "b")}, []string{"a", "b"}},
		{[]Use{use(1, "b"), use(2, "a"), use(1, "a"), use(2, "b")}, []string{"b", "a"}},
		{[]Use{use(2, "c"), use(1, "a"), use(2, "b"), use(2, "a"), use(1, "b"), use(2, "c")}, []string{"a", "b"}},
		{[]Use{use(1, ""), use(2, "")}, []string{""}},
		{[]Use{use(1, ""), use(2, "a")}, nil},
		{[]Use{use(1, "a"), use(2, "a\x00"), use(2, "A"), use(2, "aa")}, nil},
		// Acts that there are not.
		{[]Use{use(0, "a"), use(1, "a"), use(3, "a"), use(-1, "a"), use(4, "a")}, nil},
		{[]Use{use(2, "a"), use(3, "a"), use(257, "a"), use(1+1<<32, "a")}, nil},
		{[]Use{use(1, "a"), use(258, "a"), use(2+1<<32, "a"), use(-2, "a")}, nil},
		{[]Use{use(3, "b"), use(1, "a"), use(2, "a"), use(1, "b"), use(2, "b")}, []string{"b", "a"}},
	} {
		if got := Both(x.l); !slices.Equal(got, x.want) {
			t.Errorf("Both(%s) = %q; want %q", shown(x.l), got, x.want)
		}
		same(t, "both", x.l)
	}
	// Of events, too: by unlike leaves, and with unlike fees.
	l := []api.Event{event(t, 1, trade("a"), wide.Of(1), 0, 0), event(t, 2, trade("b"), wide.Of(1), 1, 0), event(t, 2, trade("a"), wide.Of(0), 2, 0), event(t, 2, trade("c"), wide.Of(0), 3, 0)}
	if got := Both(Of(l, mine())); !slices.Equal(got, []string{keyOf(trade("a"))}) {
		t.Errorf("Both of events = %x", got)
	}
}

// P27.1, Leaves: how many there are, each counted once, whatever numbers they are.
func TestLeaves(t *testing.T) {
	var l []Use
	for n, leaf := range numbers() {
		l = append(l, Use{Leaf: leaf, Act: n}, Use{Leaf: leaf, Act: n, Key: "a"}, Use{Leaf: leaf, Act: -n})
		if got := Leaves(l); got != n+1 {
			t.Errorf("Leaves = %d, want %d", got, n+1)
		}
		if got := Leaves([]Use{{Leaf: leaf}}); got != 1 {
			t.Errorf("Leaves of %d = %d", leaf, got)
		}
	}
	slices.Reverse(l)
	if got := Leaves(append(l, l...)); got != len(numbers()) {
		t.Errorf("Leaves = %d, want %d", got, len(numbers()))
	}
	same(t, "leaves", l)
}

// few are uses of few leaves, acts, keys and fees.
func few() []Use {
	var l []Use
	for _, leaf := range []int{0, 7} {
		for _, act := range []int{1, 2, 3} {
			for _, key := range []string{"", "k"} {
				for _, fee := range []uint64{0, 1} {
					l = append(l, Use{leaf, act, key, wide.Of(fee)})
				}
			}
		}
	}
	return l
}

// P27.1: all lists of at most three uses tell what the second writing does.
func TestAllSmall(t *testing.T) {
	for _, a := range few() {
		same(t, "one", []Use{a})
		for _, b := range few() {
			same(t, "two", []Use{a, b})
			for _, c := range few() {
				same(t, "three", []Use{a, b, c})
			}
		}
	}
}

// P27.1: so do longer ones, at random.
func TestAtRandom(t *testing.T) {
	r := rand.New(rand.NewSource(27))
	for n := range 4000 {
		l := make([]Use, r.Intn(12))
		for place := range l {
			l[place] = Use{Leaf: r.Intn(5), Act: r.Intn(3), Key: string(rune('a' + r.Intn(4))), Fee: wide.Of(uint64(r.Intn(2)))}
			if r.Intn(4) == 0 {
				l[place] = few()[r.Intn(len(few()))]
			}
			if place > 0 && r.Intn(4) == 0 {
				l[place] = l[r.Intn(place)]
			}
		}
		same(t, fmt.Sprint("run ", n), l)
	}
}

// P27.1: events at random, of two keys, whole and damaged, tell what the second writing does.
func TestEventsAtRandom(t *testing.T) {
	r := rand.New(rand.NewSource(28))
	told := 0
	for n := range 160 {
		l := make([]api.Event, r.Intn(14))
		for place := range l {
			l[place] = anyEvent(t, r)
		}
		for _, root := range []string{mine(), mss.Root("other"), "rootroot"} {
			want := usesOf(l, root)
			is(t, fmt.Sprint("run ", n), l, root, want...)
			told += len(want)
		}
	}
	if told < 500 {
		t.Errorf("only %d are told", told)
	}
}

// anyEvent is an event that often is like others.
func anyEvent(t *testing.T, r *rand.Rand) api.Event {
	i := trade(string('a' + rune(r.Intn(3))))
	if r.Intn(8) == 0 {
		i = wrong()[r.Intn(len(wrong()))]
	}
	seed := "seed"
	if r.Intn(4) == 0 {
		seed, i.Root = "other", mss.Root("other")
	}
	e := bare(1+r.Intn(2), i, wide.Of(uint64(r.Intn(2))), r.Intn(20))
	e.Tx.Sig = sign(t, seed, r.Intn(3), payloadOf(e.Tx.Kind-4, keyOf(i), e.Tx.Fee))
	e.Code = codes()[r.Intn(len(codes()))]
	switch r.Intn(12) {
	case 0:
		e.Tx.Kind = 4 + r.Intn(4)
	case 1:
		e.Tx.Inv.Root = mine()
	case 2:
		e.Tx.Fee = fees()[r.Intn(len(fees()))]
	case 3:
		e.Tx.Sig = e.Tx.Sig[:r.Intn(146)]
	}
	return e
}

// mixed is events of which each call tells something.
func mixed(t *testing.T) []api.Event {
	var l []api.Event
	for n := range 12 {
		l = append(l, event(t, 1+n%2, trade(string('a'+rune(n%3))), wide.Of(uint64(n/9)), n%4, n))
	}
	return l
}

// spoil writes over all of a list, as far as it has room.
func spoil[T any](l []T, with T) {
	for place := range l[:cap(l)] {
		l[:cap(l)][place] = with
	}
}

// P27.3: what is handed in is not changed, as far as it has room, and not kept; answers are new memory.
func TestMemory(t *testing.T) {
	root, whole := mine(), mixed(t)
	for length := range len(whole) + 1 {
		l := slices.Clone(whole)
		uses := Of(l[:length], root)
		want := usesOf(l[:length], root)
		spoil(Of(l[:length], root), Use{Leaf: 77})
		if !slices.Equal(l, whole) || !slices.Equal(uses, want) {
			t.Fatal("events, or another answer, are changed")
		}
		spoil(l, api.Event{})
		if !slices.Equal(uses, want) || len(Of(l[:length], root)) != 0 {
			t.Fatal("events are shared, or kept")
		}
		memoryOfUses(t, usesOf(whole, root), length)
	}
}

// memoryOfUses tells it, if what is told of the first uses of a list shares memory with it, or it is changed, or kept.
func memoryOfUses(t *testing.T, whole []Use, length int) {
	t.Helper()
	l := slices.Clone(whole)
	length = min(length, len(l))
	twice, both := Twice(l[:length]), Both(l[:length])
	spoil(Twice(l[:length]), Use{Leaf: 77})
	spoil(Both(l[:length]), "spoilt")
	Leaves(l[:length])
	if !slices.Equal(l, whole) {
		t.Fatal("uses are changed")
	}
	spoil(l, Use{Leaf: 77, Key: "spoilt"})
	if !slices.Equal(twice, twiceOf(whole[:length])) || !slices.Equal(both, bothOf(whole[:length])) {
		t.Fatal("uses are shared")
	}
	if len(Twice(l[:length]))+len(Both(l[:length])) != 0 || Leaves(l[:length]) != min(1, length) {
		t.Fatal("uses are kept")
	}
}

// P27.3: also where all of a list is told, an answer is memory of its own, at its end, too.
func TestMemoryOfAll(t *testing.T) {
	var l []Use
	for n := range 8 {
		l = append(l, Use{Leaf: n % 2, Act: 1 + n/4, Key: string('a' + rune(n%4))})
	}
	before := slices.Clone(l)
	twice, both := Twice(l), Both(l)
	if !slices.Equal(twice, before) || !slices.Equal(both, []string{"a", "b", "c", "d"}) {
		t.Fatalf("%s, %q", shown(twice), both)
	}
	spoil(append(twice[:2], twice[3:]...), Use{})
	spoil(both, "")
	if !slices.Equal(l, before) || !slices.Equal(Twice(l), before) {
		t.Error("an answer shares memory with what was handed in")
	}
}

// P1: no call panics, whatever it is given.
func TestOdd(t *testing.T) {
	var l []api.Event
	var uses []Use
	for n, x := range numbers() {
		e := api.Event{Time: x, Code: api.Errno(x), Tx: api.Tx{From: x, Nonce: x, Kind: 5 + n%2, Asset: x}}
		e.Tx.Inv = api.Inv{User: x, Root: strings.Repeat("\xff", n), Router: x, Send: x, Recv: x, To: x, Id: strings.Repeat("\x00", n)}
		e.Tx.Fee, e.Tx.Sig = fees()[n%len(fees())], strings.Repeat("\x07", 5*n)
		l = append(l, e)
		uses = append(uses, Use{Leaf: x, Act: x, Key: strings.Repeat("k", 99*n), Fee: e.Tx.Fee}, Use{Leaf: -x, Act: n % 3})
	}
	for n := range 50 {
		is(t, "odd", l, strings.Repeat("\xff", n))
	}
	is(t, "zero", make([]api.Event, 3), "")
	same(t, "odd", uses)
	same(t, "zero", make([]Use, 3))
}

// P3: of long lists the same is told, in order, as often as one asks, also side by side.
func TestSideBySide(t *testing.T) {
	var l []api.Event
	for range 40 {
		l = append(l, mixed(t)...)
	}
	var uses []Use
	for n := range 20000 {
		uses = append(uses, Use{Leaf: n % 5000, Act: n % 3, Key: fmt.Sprint(n % 7000), Fee: wide.Of(uint64(n % 2))})
	}
	root := mine()
	want, twice, both := usesOf(l, root), Twice(uses), Both(uses)
	all := make(chan bool)
	for range 8 {
		go func() {
			ok := true
			for range 4 {
				ok = ok && slices.Equal(Of(l, root), want) && slices.Equal(Twice(uses), twice) && slices.Equal(Both(uses), both) && Leaves(uses) == 5000
			}
			all <- ok
		}()
	}
	for range 8 {
		if !<-all {
			t.Error("something else is told")
		}
	}
	if len(twice) != 20000 || len(both) < 6000 || both[0] != "0" || both[1] != "1" {
		t.Errorf("%d, %d", len(twice), len(both))
	}
}
