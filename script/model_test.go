package script

import (
	"bytes"
	"encoding/binary"
	"fmt"
	"math/big"
	"math/rand"
	"slices"
	"testing"

	"narrows/api"
	"narrows/bid"
	"narrows/mail"
	"narrows/txs"
	"narrows/wide"
	"narrows/world"
)

// A second writing of the chapter, by big numbers and the library's own fixed sizes.

// head is what stands ahead of a step's Data, A, B, C with their highest bit turned.
type head struct {
	Kind    uint8
	A, B, C uint16
	Length  uint16
}

// outside tells whether n is not from least to most.
func outside(n int, least, most int64) bool {
	x := big.NewInt(int64(n))
	return x.Cmp(big.NewInt(least)) < 0 || x.Cmp(big.NewInt(most)) > 0
}

// modelPut is Put once more.
func modelPut(l []api.Step) ([]byte, api.Errno) {
	var all bytes.Buffer
	odd, long := false, false
	for _, x := range l {
		for _, n := range []int{x.A, x.B, x.C} {
			odd = odd || outside(n, -32768, 32767)
		}
		odd = odd || outside(x.Kind, 0, 255)
		long = long || len(x.Data) > 1024
		binary.Write(&all, binary.BigEndian, head{uint8(x.Kind), uint16(x.A) ^ 32768, uint16(x.B) ^ 32768, uint16(x.C) ^ 32768, uint16(len(x.Data))})
		all.Write(x.Data)
	}
	switch {
	case len(l) > 512:
		return nil, api.ErrCount
	case odd:
		return nil, api.ErrRange
	case long || all.Len() > 8192:
		return nil, api.ErrLong
	}
	return all.Bytes(), api.OK
}

// modelRead is Read once more.
func modelRead(b []byte) ([]api.Step, api.Errno) {
	if len(b) > 8192 {
		return nil, api.ErrLong
	}
	var l []api.Step
	left := bytes.NewReader(b)
	for left.Len() > 0 {
		var h head
		if binary.Read(left, binary.BigEndian, &h) != nil || h.Length > 1024 || int(h.Length) > left.Len() {
			return nil, api.ErrSyntax
		}
		data := make([]byte, h.Length)
		left.Read(data)
		l = append(l, api.Step{Kind: int(h.Kind), A: int(int16(h.A ^ 32768)), B: int(int16(h.B ^ 32768)), C: int(int16(h.C ^ 32768)), Data: data})
	}
	if len(l) > 512 {
		return nil, api.ErrCount
	}
	return l, api.OK
}

// agrees fails, unless Put and Read answer as the second writing does; and what may be comes back.
func agrees(t *testing.T, l []api.Step, b []byte, seen map[string]int) {
	t.Helper()
	mine, given := copied(l), bytes.Clone(b)
	got, err := Put(l)
	want, wantErr := modelPut(l)
	if err != wantErr || !bytes.Equal(got, want) {
		t.Fatalf("%d steps are put as %d octets, %d; want %d, %d", len(l), len(got), err, len(want), wantErr)
	}
	seen[fmt.Sprint("put ", err)]++
	if err == api.OK {
		if back, err := Read(got); err != api.OK || told(back) != told(l) {
			t.Fatalf("%d steps come back as %d, %d", len(l), len(back), err)
		}
	}
	back, err := Read(b)
	wantBack, wantErr := modelRead(b)
	if err != wantErr || told(back) != told(wantBack) {
		t.Fatalf("%d octets are read as %d steps, %d; want %d, %d", len(b), len(back), err, len(wantBack), wantErr)
	}
	seen[fmt.Sprint("read ", err)]++
	if err == api.OK {
		if again, err := Put(back); err != api.OK || !bytes.Equal(again, b) {
			t.Fatalf("%d octets come back as %d, %d", len(b), len(again), err)
		}
	}
	if told(l) != told(mine) || !bytes.Equal(b, given) {
		t.Fatal("what was handed in is changed")
	}
}

// lots is how many steps a random script has, how much Data each at most, and how many of 1000 steps may not be.
func lots(r *rand.Rand) (int, int, int) {
	odd := []int{0, 0, 1, 300}[r.Intn(4)]
	switch r.Intn(5) {
	case 0:
		return 505 + r.Intn(14), 1 + r.Intn(16), odd / 100
	case 1:
		return 12 + r.Intn(20), 1025 + r.Intn(2), odd
	case 2:
		return r.Intn(520), 1 + r.Intn(30), odd / 10
	}
	return r.Intn(5), 1 + r.Intn(20), odd
}

// random is a script that may be, or just not.
func random(r *rand.Rand) []api.Step {
	n, most, odd := lots(r)
	var l []api.Step
	for range n {
		x := api.Step{Kind: r.Intn(256), A: r.Intn(65536) - 32768, B: r.Intn(5) - 2, C: r.Intn(65536) - 32768}
		if r.Intn(3) > 0 {
			x.Data = make([]byte, r.Intn(most))
			r.Read(x.Data)
		}
		if r.Intn(1000) < odd {
			spot := []*int{&x.Kind, &x.A, &x.B, &x.C}[r.Intn(4)]
			*spot = []int{-1, 256, 32768, -32769, r.Int(), -r.Int()}[r.Intn(6)]
		}
		l = append(l, x)
	}
	return l
}

// damaged is octets, some of them changed, gone or more.
func damaged(r *rand.Rand, b []byte) []byte {
	b = bytes.Clone(b)
	for range r.Intn(3) {
		at := 0
		if len(b) > 0 {
			at = r.Intn(len(b))
		}
		switch r.Intn(5) {
		case 0:
			b = b[:at]
		case 1:
			b = b[at:]
		case 2:
			b = append(b, make([]byte, r.Intn(30))...)
		case 3:
			b = append(b, b[:at]...)
		case 4:
			if len(b) > 0 {
				b[at] ^= 1 << r.Intn(8)
			}
		}
	}
	return b
}

// P25.1, P25.2: random scripts, and octets, whole and damaged, against the second writing.
func TestModel(t *testing.T) {
	seen := map[string]int{}
	for seed := range 4000 {
		r := rand.New(rand.NewSource(int64(seed)))
		l := random(r)
		b, err := modelPut(l)
		if err != api.OK {
			b = make([]byte, []int{8192, 8193, 9 * r.Intn(1000), r.Intn(40)}[r.Intn(4)])
		}
		agrees(t, l, damaged(r, b), seen)
	}
	for _, want := range []api.Errno{api.OK, api.ErrCount, api.ErrRange, api.ErrLong} {
		if seen[fmt.Sprint("put ", want)] < 50 {
			t.Errorf("Put told %d only %d times", want, seen[fmt.Sprint("put ", want)])
		}
	}
	for _, want := range []api.Errno{api.OK, api.ErrCount, api.ErrSyntax, api.ErrLong} {
		if seen[fmt.Sprint("read ", want)] < 50 {
			t.Errorf("Read told %d only %d times", want, seen[fmt.Sprint("read ", want)])
		}
	}
}

// P25.1, P25.2, P1: octets of any kind are some script's, or none's; short ones, each.
func TestAnyOctets(t *testing.T) {
	seen := map[string]int{}
	r := rand.New(rand.NewSource(1))
	for n := range 24 {
		for range 300 {
			b := make([]byte, n)
			r.Read(b)
			// Lengths that may be there.
			for at := 7; at < n; at += 9 {
				b[at] = byte(r.Intn(8) / 7)
			}
			for at := 8; at < n; at += 9 {
				b[at] = byte(r.Intn(12))
			}
			agrees(t, nil, b, seen)
		}
	}
	if seen["read 0"] < 300 || seen["read 16"] < 300 {
		t.Error(seen)
	}
}

// letter is octets that somebody may get.
func letter(r *rand.Rand) []byte {
	a := api.Ask{User: r.Intn(2), Send: r.Intn(2), Recv: r.Intn(2), To: 5, Amount: wide.Of(uint64(1 + r.Intn(300))), Id: string(rune('a' + r.Intn(3)))}
	key := api.Key{Seed: bid.Seed(2 + r.Intn(2)), Next: r.Intn(8)}
	b, _, _ := bid.Sign(key, api.Bid{Router: 2 + r.Intn(2), Ask: a, Amount: a.Amount, Until: 20 + r.Intn(20)})
	m := []api.Message{{Kind: 1, Ask: a}, {Kind: 2, Bid: b}}[r.Intn(2)]
	data, _ := mail.Put(m)
	return data
}

// transaction is octets of one that somebody may submit.
func transaction(r *rand.Rand) []byte {
	x := api.Tx{From: r.Intn(8), Nonce: r.Intn(3), Kind: 1 + r.Intn(3), Asset: r.Intn(2), Amount: wide.Of(uint64(1 + r.Intn(500))), Inv: api.Inv{To: r.Intn(8), Router: 2 + r.Intn(2)}}
	data, _ := txs.Octets(x)
	return data
}

// play is a script in which all kinds of steps are.
func play(r *rand.Rand) []api.Step {
	l := make([]api.Step, r.Intn(60))
	for i := range l {
		l[i] = api.Step{Kind: r.Intn(16), A: r.Intn(6) - 1, B: r.Intn(100) - 5, C: r.Intn(3)}
		switch {
		case l[i].Kind == 6:
			l[i].Data = transaction(r)
		case l[i].Kind == 7:
			l[i].Data = letter(r)
		case r.Intn(9) == 0:
			l[i].Data = []byte("what")
		}
		// Much that is asked for comes to nothing without these.
		if i%5 == 4 {
			l[i] = api.Step{Kind: 13}
		}
	}
	return l
}

// P25.1, Run: random scripts, ahead and behind octets, and one by one.
func TestRunModel(t *testing.T) {
	seen := map[string]int{}
	for seed := range 120 {
		r := rand.New(rand.NewSource(int64(seed)))
		s := world.Setup{Delay: 1 + r.Intn(4), Skew: r.Intn(201) - 100, Corrupt: r.Intn(32) & r.Intn(32) & r.Intn(32), Room: 500 + r.Intn(9000)}
		l := play(r)
		back, err := Read(octetsOf(t, l))
		if err != api.OK {
			t.Fatal(err)
		}
		w := ran(t, s, back)
		same(t, fmt.Sprint(seed), w, byHand(t, s, l))
		if r.Intn(4) == 0 {
			same(t, fmt.Sprint(seed, " once more"), ran(t, s, l), w)
		}
		kinds := map[int]int{}
		for _, x := range l {
			kinds[x.Kind]++
		}
		for kind := range kinds {
			seen[fmt.Sprint("kind ", kind)]++
		}
		for side := range 2 {
			if slices.ContainsFunc(w.Side(side).Events(0), func(e api.Event) bool { return e.Tx.Kind == 5 && e.Code == api.OK }) {
				seen[fmt.Sprint("fulfilled ", side)]++
			}
		}
	}
	for kind := range 16 {
		if seen[fmt.Sprint("kind ", kind)] < 10 {
			t.Errorf("few of kind %d", kind)
		}
	}
	if seen["fulfilled 0"] < 3 || seen["fulfilled 1"] < 3 {
		t.Error(seen)
	}
}
