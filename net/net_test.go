package net

import (
	"fmt"
	"math"
	"math/big"
	"math/rand"
	"reflect"
	"slices"
	"strconv"
	"strings"
	"sync"
	"testing"

	"narrows/api"
	"narrows/mail"
	"narrows/wide"
)

// letters is mail with those texts, each for the account that its first sign names.
func letters(texts ...string) []api.Mail {
	var l []api.Mail
	for _, t := range texts {
		l = append(l, api.Mail{To: int(t[0] - '0'), Data: []byte(t)})
	}
	return l
}

// many is n letters, no two alike, for accounts 0 to 4 by turns.
func many(n int) []api.Mail {
	l := make([]api.Mail, n)
	for i := range l {
		l[i] = api.Mail{To: i % 5, Data: []byte(strconv.Itoa(i))}
	}
	return l
}

// told is a list as one text, nil and empty octets alike.
func told(l []api.Mail) string {
	var b strings.Builder
	for _, m := range l {
		fmt.Fprintf(&b, "%d:%q ", m.To, m.Data)
	}
	return b.String()
}

// is fails, if a list is not the other one.
func is(t *testing.T, name string, got, want []api.Mail) {
	t.Helper()
	if told(got) != told(want) {
		t.Errorf("%s:\n %.300s\nnot\n %.300s", name, told(got), told(want))
	}
}

// turned is at modulo n, by big numbers, whose Mod is never below 0.
func turned(at, n int) int {
	return int(new(big.Int).Mod(big.NewInt(int64(at)), big.NewInt(int64(n))).Int64())
}

// P23.1: what is posted stands behind the others, in order, each for that account.
func TestPost(t *testing.T) {
	is(t, "on nothing", Post(nil, 3, []byte("a")), []api.Mail{{To: 3, Data: []byte("a")}})
	is(t, "on an empty list", Post([]api.Mail{}, 3, []byte("a")), []api.Mail{{To: 3, Data: []byte("a")}})
	is(t, "behind the others", Post(letters("2b", "0a", "2c"), 1, []byte("z")), append(letters("2b", "0a", "2c"), api.Mail{To: 1, Data: []byte("z")}))
	is(t, "several", Post(letters("9"), 4, []byte("4c"), []byte("4a"), []byte("4b")), letters("9", "4c", "4a", "4b"))
	is(t, "alike", Post(letters("1a", "1a"), 1, []byte("1a"), []byte("1a")), letters("1a", "1a", "1a", "1a"))
	is(t, "none", Post(letters("2b", "0a"), 7), letters("2b", "0a"))
	is(t, "none on nothing", Post(nil, 7), nil)
	is(t, "none of an empty list", Post(letters("1a"), 7, [][]byte{}...), letters("1a"))
	long := []byte(strings.Repeat("octets", 9000))
	is(t, "octets of any kind and number", Post(nil, 0, []byte{0, 255}, long), []api.Mail{{To: 0, Data: []byte{0, 255}}, {To: 0, Data: long}})
}

// P23.1: no octets are a letter, too, nil or empty.
func TestPostNoOctets(t *testing.T) {
	for _, d := range [][]byte{nil, {}} {
		got := Post(letters("1a"), 2, d, []byte("2b"), d)
		is(t, "no octets", got, []api.Mail{{To: 1, Data: []byte("1a")}, {To: 2}, {To: 2, Data: []byte("2b")}, {To: 2}})
		is(t, "none taken", For(got, 2), []api.Mail{{To: 2}, {To: 2, Data: []byte("2b")}, {To: 2}})
		one, rest, ok := Take(got, 1)
		if one.To != 2 || len(one.Data) != 0 || !ok {
			t.Error("no octets:", one, ok)
		}
		is(t, "the others", rest, []api.Mail{got[0], got[2], got[3]})
		is(t, "twinned", Twin(got, 3), append(slices.Clone(got), api.Mail{To: 2}))
	}
}

// P23.1: whom a letter is for may be any number.
func TestAnyAccount(t *testing.T) {
	for _, to := range []int{0, 1, 4, 5, 7, 8, -1, math.MaxInt, math.MinInt} {
		l := Post(letters("1a"), to, []byte("x"))
		if len(l) != 2 || l[1].To != to {
			t.Error("posted for", to, ":", l)
		}
		want := l[1:]
		if to == 1 {
			want = l
		}
		is(t, "for it", For(l, to), want)
		is(t, "for nobody of these", For(l, 2), nil)
		if one, _, ok := Take(l, 1); !ok || one.To != to {
			t.Error("taken for", to, ":", one)
		}
		if l = Twin(l, 1); len(l) != 3 || l[2].To != to {
			t.Error("twinned for", to, ":", l)
		}
	}
}

// P23.1: more than MaxMail are not on their way, whether they come one by one, at once, or were handed in.
func TestPostRoom(t *testing.T) {
	if api.MaxMail != 512 {
		t.Fatal("MaxMail:", api.MaxMail)
	}
	for have := 505; have <= 520; have++ {
		for posted := 0; posted <= 10; posted++ {
			var data [][]byte
			want := many(have)
			for i := range posted {
				data = append(data, []byte{byte(i)})
				want = append(want, api.Mail{To: 6, Data: []byte{byte(i)}})
			}
			is(t, fmt.Sprint(posted, " behind ", have), Post(many(have), 6, data...), want[:min(len(want), 512)])
		}
	}
	var l []api.Mail
	for i := range 600 {
		l = Post(l, i%5, []byte(strconv.Itoa(i)))
		if len(l) != min(i+1, 512) {
			t.Fatal("behind", i, "there are", len(l))
		}
	}
	is(t, "one by one", l, many(512))
	data := make([][]byte, 2000)
	for i := range data {
		data[i] = []byte(strconv.Itoa(i))
	}
	l = Post(nil, 0, data...)
	if len(l) != 512 || string(l[0].Data) != "0" || string(l[511].Data) != "511" {
		t.Error("at once:", len(l))
	}
	_, l, _ = Take(l, 5)
	if l = Post(l, 3, []byte("last"), []byte("none")); len(l) != 512 || string(l[511].Data) != "last" {
		t.Error("where one was taken is room for one:", len(l))
	}
}

// P23.1: at is counted round, also below 0, to the first and last number that there is.
func TestTakePlace(t *testing.T) {
	for _, n := range []int{1, 2, 3, 4, 5, 7, 8, 10, 64, 511, 512, 513, 600} {
		l := many(n)
		places := []int{math.MinInt, math.MinInt + 1, math.MaxInt, math.MaxInt - 1, 1 << 40, -(1 << 40), math.MaxInt32, math.MinInt32}
		for at := -2*n - 1; at <= 2*n+1; at += max(1, n/16) {
			places = append(places, at)
		}
		for _, near := range []int{-2 * n, -n, 0, n, 2 * n} {
			places = append(places, near-1, near, near+1)
		}
		for _, at := range places {
			place := turned(at, n)
			one, others, ok := Take(l, at)
			is(t, fmt.Sprint("that one of ", n, " at ", at), []api.Mail{one}, l[place:place+1])
			is(t, fmt.Sprint("the others of ", n, " at ", at), others, slices.Concat(l[:place], l[place+1:]))
			if !ok {
				t.Error("false of", n, "at", at)
			}
			want := append(slices.Clone(l), l[place])
			is(t, fmt.Sprint("twin of ", n, " at ", at), Twin(l, at), want[:min(len(want), 512)])
		}
	}
}

// P23.1: each place of a few, told by hand.
func TestTakeFew(t *testing.T) {
	l := letters("2b", "0a", "2c")
	for at, want := range map[int]string{0: "2b", 1: "0a", 2: "2c", 3: "2b", 4: "0a", 5: "2c", -1: "2c", -2: "0a", -3: "2b", -4: "2c"} {
		if one, _, _ := Take(l, at); string(one.Data) != want {
			t.Errorf("at %d: %s, not %s", at, one.Data, want)
		}
		twinned := Twin(l, at)
		is(t, "twinned", twinned, append(letters("2b", "0a", "2c"), letters(want)...))
	}
	one, others, ok := Take(letters("3x"), -9)
	is(t, "the only one", []api.Mail{one}, letters("3x"))
	if len(others) != 0 || !ok {
		t.Error("the only one:", others, ok)
	}
	one, others, _ = Take(letters("1a", "1a", "1b"), 1)
	is(t, "of two alike one", []api.Mail{one}, letters("1a"))
	is(t, "of two alike the other one stays", others, letters("1a", "1b"))
}

// P23.1: where nothing is on its way, nothing is taken, twinned or for anybody.
func TestNothing(t *testing.T) {
	for _, l := range [][]api.Mail{nil, {}, many(3)[:0]} {
		for _, at := range []int{0, 1, -1, 7, math.MaxInt, math.MinInt} {
			one, others, ok := Take(l, at)
			if one.To != 0 || one.Data != nil || len(others) != 0 || ok {
				t.Error("taken of nothing:", one, others, ok)
			}
			if got := Twin(l, at); len(got) != 0 {
				t.Error("twinned of nothing:", got)
			}
			if got := For(l, at); len(got) != 0 {
				t.Error("of nothing for", at, ":", got)
			}
		}
		if got := Post(l, 0); len(got) != 0 {
			t.Error("nothing posted on nothing:", got)
		}
	}
}

// P23.1: a twin stands behind the others, if there is room.
func TestTwinRoom(t *testing.T) {
	for n := 508; n <= 516; n++ {
		for _, at := range []int{0, 1, 511, -1, n, n + 7} {
			l := many(n)
			want := append(many(n), l[turned(at, n)])
			is(t, fmt.Sprint("twin of ", n), Twin(l, at), want[:min(len(want), 512)])
		}
	}
	l := letters("1a")
	for i := range 600 {
		l = Twin(l, i)
		if len(l) != min(i+2, 512) {
			t.Fatal("behind", i, "there are", len(l))
		}
	}
}

// P23.1: what is for an account, in order, and nothing else.
func TestFor(t *testing.T) {
	l := letters("2b", "0a", "2c", "2a", "1a", "2b", "0a")
	for to, want := range map[int][]api.Mail{
		0: letters("0a", "0a"), 1: letters("1a"), 2: letters("2b", "2c", "2a", "2b"), 3: nil, -1: nil, math.MaxInt: nil,
	} {
		is(t, fmt.Sprint("for ", to), For(l, to), want)
	}
	if got := For(many(600), 0); len(got) != 120 || string(got[119].Data) != "595" {
		t.Error("for account 0 of 600:", len(got))
	}
}

// P23.1: a message comes as it went, taken or for its account, twinned and overtaken.
func TestMessages(t *testing.T) {
	a := api.Ask{User: 1, Send: 0, Recv: 1, To: 5, Amount: wide.Of(100), Id: "trade"}
	want := []api.Message{{Kind: 1, Ask: a}, {Kind: 2, Bid: api.Bid{Router: 2, Ask: a, Amount: wide.Of(99), Until: 20}}}
	var l []api.Mail
	for _, m := range want {
		b, err := mail.Put(m)
		if err != api.OK {
			t.Fatal(err)
		}
		l = Post(l, m.Kind, b)
	}
	l = Twin(l, 0)
	one, l, _ := Take(l, 0)
	for i, m := range []api.Mail{For(l, 1)[0], For(l, 2)[0], one} {
		got, err := mail.Read(m.Data)
		if err != api.OK || got != want[i%2] {
			t.Error("message", i, ":", got, err)
		}
	}
	is(t, "the twin is behind", l, []api.Mail{For(l, 2)[0], one})
}

// spoiled writes over all that a list has, up to what it has room for, so that what shares memory with it is not the same any more.
func spoiled(l []api.Mail) {
	for i := range l[:cap(l)] {
		m := &l[:cap(l)][i]
		for j := range m.Data[:cap(m.Data)] {
			m.Data[:cap(m.Data)][j] ^= 0xff
		}
		m.To ^= 1 << 20
		m.Data = append(m.Data[:len(m.Data):len(m.Data)], 'x')
	}
}

// roomy is letters in a list, and octets, with room behind them.
func roomy(texts ...string) []api.Mail {
	l := make([]api.Mail, 0, len(texts)+3)
	for _, m := range letters(texts...) {
		l = append(l, api.Mail{To: m.To, Data: append(make([]byte, 0, 16), m.Data...)})
	}
	rest := l[len(l):cap(l)]
	for i := range rest {
		rest[i] = api.Mail{To: 77, Data: []byte("behind")}
	}
	return l
}

// calls is each call's answers, as lists; and so some lists of the octets that were handed in.
func calls(l []api.Mail, data ...[]byte) [][]api.Mail {
	one, others, _ := Take(l, 1)
	return [][]api.Mail{Post(l, 4, data...), Post(l, 4), Post(nil, 4, data...), {one}, others, Twin(l, 1), For(l, 1), For(l, 2)}
}

// whole is a list with what stands behind it as far as it has room, octets too, as one text.
func whole(l []api.Mail) string {
	var b strings.Builder
	for _, m := range l[:cap(l)] {
		fmt.Fprintf(&b, "%d:%q ", m.To, m.Data[:cap(m.Data)])
	}
	return b.String()
}

// P23.2: nothing that was handed in is changed, also behind it, where a list has room.
func TestArgumentsStay(t *testing.T) {
	l := roomy("1a", "2b", "1c")
	octets := append(make([]byte, 0, 9), "data"...)
	data := append(make([][]byte, 0, 4), octets, octets)
	was, wasData := whole(l), fmt.Sprintf("%q %q", octets[:9], data[:4])
	for _, answer := range calls(l, data...) {
		spoiled(answer)
	}
	for _, answer := range calls(l[:2], data...) {
		spoiled(answer)
	}
	if whole(l) != was {
		t.Error("the list was changed:\n", whole(l), "\n", was)
	}
	if got := fmt.Sprintf("%q %q", octets[:9], data[:4]); got != wasData {
		t.Error("the octets were changed:", got)
	}
}

// P23.2: an answer shares no memory with what was handed in, nor with another answer, nor one letter of it with another.
func TestAnswersAreNew(t *testing.T) {
	l := roomy("1a", "2b", "1c")
	octets := []byte("data")
	answers := calls(l, octets, octets)
	var was []string
	for _, a := range answers {
		was = append(was, told(a))
	}
	spoiled(l)
	copy(octets, "zzzz")
	for i := range answers {
		if told(answers[i]) != was[i] {
			t.Errorf("answer %d shares with what was handed in: %s", i, told(answers[i]))
		}
	}
	for i := range answers {
		spoiled(answers[i])
		for j := i + 1; j < len(answers); j++ {
			if told(answers[j]) != was[j] {
				t.Errorf("answers %d and %d share memory", i, j)
			}
		}
	}
}

// P23.2: of one answer no letter's octets are another's, also those of a twin, of what was posted twice, or of what stood there twice.
func TestLettersAreTheirOwn(t *testing.T) {
	octets := []byte("data")
	l := append(roomy("1a", "1b"), api.Mail{To: 1, Data: octets}, api.Mail{To: 1, Data: octets})
	for number, answer := range calls(l, octets, octets) {
		for i := range answer {
			was := told(slices.Delete(slices.Clone(answer), i, i+1))
			spoiled(answer[i : i+1 : i+1])
			if told(slices.Delete(slices.Clone(answer), i, i+1)) != was {
				t.Errorf("answer %d: octets of letter %d are another's, too", number, i)
			}
		}
	}
	one, others, _ := Take(l, 2)
	for i := range one.Data {
		one.Data[i] = 'q'
	}
	if string(others[2].Data) != "data" {
		t.Error("what is taken shares with the others:", told(others))
	}
}

// P23.1: steps of all kinds, by chance, against a second writing that keeps texts.
func TestModel(t *testing.T) {
	r := rand.New(rand.NewSource(23))
	seen := map[string]int{}
	for run := range 40 {
		var l []api.Mail
		var texts []string // a letter is its account and its octets
		for step := range 120 {
			at := r.Intn(4000) - 2000
			switch kind := r.Intn(10); {
			case kind < 4:
				n := r.Intn(3) + r.Intn(2)*(run%4)*r.Intn(20)
				to := r.Intn(5)
				var data [][]byte
				for i := range n {
					data = append(data, []byte(fmt.Sprint(step, ".", i%3)))
				}
				l = Post(l, to, data...)
				for _, d := range data {
					if len(texts) == 512 {
						seen["posted without room"]++
						continue
					}
					texts = append(texts, strconv.Itoa(to)+" "+string(d))
				}
			case kind < 6:
				one, others, ok := Take(l, at)
				if ok != (len(texts) > 0) {
					t.Fatal("taken:", ok, "of", len(texts))
				}
				if !ok {
					seen["nothing to take"]++
					break
				}
				i := turned(at, len(texts))
				if got := fmt.Sprintf("%d %s", one.To, one.Data); got != texts[i] {
					t.Fatal("taken:", got, "not", texts[i])
				}
				texts = slices.Delete(texts, i, i+1)
				l = others
				seen["taken"]++
			case kind < 9:
				l = Twin(l, at)
				if len(texts) == 0 || len(texts) == 512 {
					seen["not twinned"]++
					break
				}
				texts = append(texts, texts[turned(at, len(texts))])
				seen["twinned"]++
			default:
				to := r.Intn(6)
				got := For(l, to)
				place := 0
				for _, text := range texts {
					if text[:1] != strconv.Itoa(to) {
						continue
					}
					if place >= len(got) || got[place].To != to || string(got[place].Data) != text[2:] {
						t.Fatal("for", to, "place", place, "not", text)
					}
					place++
				}
				if place != len(got) {
					t.Fatal("for", to, ":", len(got), "not", place)
				}
				seen["for an account"] += place
			}
			if len(l) != len(texts) {
				t.Fatal("there are", len(l), "not", len(texts))
			}
			for i, m := range l {
				if got := fmt.Sprintf("%d %s", m.To, m.Data); got != texts[i] {
					t.Fatal("at", i, got, "not", texts[i])
				}
			}
		}
	}
	for _, what := range []string{"posted without room", "nothing to take", "taken", "not twinned", "twinned", "for an account"} {
		if seen[what] == 0 {
			t.Error("never seen:", what)
		}
	}
}

// P23.2: what a call answers hangs on its arguments alone, also side by side.
func TestSideBySide(t *testing.T) {
	l := letters("1a", "2b", "1c", "3d")
	want := calls(l, []byte("x"))
	var all sync.WaitGroup
	for range 8 {
		all.Go(func() {
			for range 200 {
				if got := calls(l, []byte("x")); !reflect.DeepEqual(got, want) {
					t.Error("another answer:", got)
				}
			}
		})
	}
	all.Wait()
}
