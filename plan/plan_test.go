package plan

import (
	"math"
	"math/big"
	"math/rand"
	"testing"
)

// delays are numbers that may be handed in as delays, with the delay that each one is.
func delays() map[int]int {
	return map[int]int{
		math.MinInt: 1, math.MinInt + 1: 1, math.MinInt32: 1, -1 << 40: 1, -257: 1, -256: 1, -5: 1, -4: 1, -3: 1, -2: 1, -1: 1, 0: 1,
		1: 1, 2: 2, 3: 3, 4: 4,
		5: 4, 6: 4, 7: 4, 8: 4, 255: 4, 256: 4, 257: 4, 1 << 16: 4, 1<<32 + 1: 4, 1 << 40: 4, 1<<40 + 2: 4,
		math.MaxInt / 16: 4, math.MaxInt/16 + 1: 4, math.MaxInt / 8: 4, math.MaxInt/8 + 1: 4, math.MaxInt - 1: 4, math.MaxInt: 4,
	}
}

// moments are numbers that may be handed in as times: edges of what is a time, and of what is none.
func moments() []int {
	l := []int{math.MinInt, math.MinInt + 1, math.MinInt + 5, math.MinInt / 2, -1 << 41, -1<<40 - 1, -1 << 40, 1<<40 + 1000, 1 << 41, 1 << 62, math.MaxInt / 2, math.MaxInt - 50, math.MaxInt - 1, math.MaxInt}
	for n := -8; n <= 60; n++ {
		l = append(l, n, 1000+n, 1<<40-n, 1<<32-n)
	}
	return l
}

// question is one of the calls that ask for two times: how much the second is above the first, at least, by the delay.
type question struct {
	name  string
	ask   func(first int, second int, d int) bool
	least [5]int
}

// questions are all of them. What each one asks is worked out by hand, for the delays from 1 to 4.
func questions() []question {
	return []question{
		{"Release", Release, [5]int{0, 3, 4, 5, 6}},
		{"Mirror", Mirror, [5]int{0, 17, 28, 39, 50}},
		{"Due", Due, [5]int{0, 2, 3, 4, 5}},
	}
}

// above tells whether both are times and second is at least so much above first, by numbers that never wrap round.
func above(first int, second int, least int) bool {
	a, b, last := big.NewInt(int64(first)), big.NewInt(int64(second)), big.NewInt(1<<40)
	if a.Sign() < 0 || b.Sign() < 0 || a.Cmp(last) > 0 || b.Cmp(last) > 0 {
		return false
	}
	return a.Add(a, big.NewInt(int64(least))).Cmp(b) <= 0
}

// P17.1, the chapter's example: Long of 1.
func TestExample(t *testing.T) {
	if got := Long(1); got != 28 {
		t.Errorf("Long(1) = %d, want 28", got)
	}
}

// P17.1, Delay: from 1 to 4 itself, else the nearest.
func TestDelay(t *testing.T) {
	for d, want := range delays() {
		if got := Delay(d); got != want {
			t.Errorf("Delay(%d) = %d, want %d", d, got, want)
		}
	}
}

// P17.1, Window: 1, whatever the delay.
func TestWindow(t *testing.T) {
	for d := range delays() {
		if got := Window(d); got != 1 {
			t.Errorf("Window(%d) = %d, want 1", d, got)
		}
	}
}

// P17.1, Short and Long: 8 d and 4, 16 d and 12, worked out by hand; of what is no delay that of the nearest.
func TestShortLong(t *testing.T) {
	short, long := [5]int{0, 12, 20, 28, 36}, [5]int{0, 28, 44, 60, 76}
	for d, is := range delays() {
		if got := Short(d); got != short[is] {
			t.Errorf("Short(%d) = %d, want %d", d, got, short[is])
		}
		if got := Long(d); got != long[is] {
			t.Errorf("Long(%d) = %d, want %d", d, got, long[is])
		}
	}
}

// P17.1, Release, Mirror, Due: at the least that is asked for, and around it, from the first time to the last.
func TestLeast(t *testing.T) {
	for _, q := range questions() {
		for d, is := range delays() {
			least := q.least[is]
			for _, first := range []int{0, 1, 7, 1000, 1<<32 - 9, 1 << 32, 1<<40 - least - 1, 1<<40 - least} {
				for off := -2; off <= 2; off++ {
					second := first + least + off
					want := off >= 0 && second <= 1<<40
					if got := q.ask(first, second, d); got != want {
						t.Errorf("%s(%d, %d, %d) = %t, want %t", q.name, first, second, d, got, want)
					}
				}
			}
		}
	}
}

// P17.1: a time of 0 and one of MaxNum are times; one below, or above, is none, whichever it is.
func TestNoTimes(t *testing.T) {
	for _, q := range questions() {
		for d := range delays() {
			if !q.ask(0, 1<<40, d) {
				t.Errorf("%s(0, 2^40, %d) = false", q.name, d)
			}
			for _, wrong := range []int{-1, -2, -100, -1 << 40, math.MinInt, math.MinInt + 100} {
				if q.ask(wrong, 1<<40, d) || q.ask(wrong, 100, d) || q.ask(wrong, 0, d) {
					t.Errorf("%s: %d is taken as a time, delay %d", q.name, wrong, d)
				}
				// What wraps round would be far above.
				if q.ask(1<<40, wrong, d) || q.ask(0, wrong, d) || q.ask(wrong-100, wrong, d) || q.ask(wrong, wrong+100, d) {
					t.Errorf("%s: %d is taken as a time, delay %d", q.name, wrong, d)
				}
			}
			for _, wrong := range []int{1<<40 + 1, 1<<40 + 2, 1<<40 + 100, 1 << 41, 1 << 62, math.MaxInt - 1, math.MaxInt} {
				if q.ask(0, wrong, d) || q.ask(1<<40, wrong, d) || q.ask(wrong, 1<<40, d) || q.ask(wrong-100, wrong, d) || q.ask(wrong, wrong+100, d) || q.ask(wrong, math.MinInt, d) {
					t.Errorf("%s: %d is taken as a time, delay %d", q.name, wrong, d)
				}
			}
		}
	}
}

// P17.1: the second at the first's time, or ahead of it, is not above it.
func TestNotAbove(t *testing.T) {
	for _, q := range questions() {
		for d := range delays() {
			for _, first := range []int{0, 1, 2, 50, 1000, 1<<40 - 1, 1 << 40} {
				for _, second := range []int{first, first - 1, first - 17, first / 2, 0} {
					if q.ask(first, second, d) {
						t.Errorf("%s(%d, %d, %d) = true", q.name, first, second, d)
					}
				}
			}
		}
	}
}

// P17.1: all pairs of edges, with all delays, against the second writing.
func TestAllMoments(t *testing.T) {
	l := moments()
	for _, q := range questions() {
		for d, is := range delays() {
			for _, first := range l {
				for _, second := range l {
					if got, want := q.ask(first, second, d), above(first, second, q.least[is]); got != want {
						t.Fatalf("%s(%d, %d, %d) = %t, want %t", q.name, first, second, d, got, want)
					}
				}
			}
		}
	}
}

// P17.1: at random, near each other and far away, against the second writing.
func TestAtRandom(t *testing.T) {
	r := rand.New(rand.NewSource(17))
	held := 0
	for range 200000 {
		q := questions()[r.Intn(3)]
		d := r.Intn(8) - 2
		first := int(r.Uint64() >> r.Intn(64))
		second := first + r.Intn(120) - 40
		if r.Intn(4) == 0 {
			second = int(r.Uint64() >> r.Intn(64))
		}
		want := above(first, second, q.least[min(max(d, 1), 4)])
		if got := q.ask(first, second, d); got != want {
			t.Fatalf("%s(%d, %d, %d) = %t, want %t", q.name, first, second, d, got, want)
		}
		if want {
			held++
		}
	}
	if held < 20000 {
		t.Errorf("too little held: %d", held)
	}
}

// P17.1: as time goes on, what there is time for ends once, and what is due stays due.
func TestOnce(t *testing.T) {
	for d := -1; d <= 6; d++ {
		for _, begin := range []int{0, 1000, 1<<40 - 200} {
			end := begin + Long(d)
			for now := begin; now <= end+10; now++ {
				if !Release(now, end, d) && Release(now+1, end, d) || !Mirror(now, end, d) && Mirror(now+1, end, d) {
					t.Errorf("delay %d: at %d there is time again", d, now+1)
				}
				if Due(begin, now, d) && !Due(begin, now+1, d) {
					t.Errorf("delay %d: at %d it is due no more", d, now+1)
				}
			}
		}
	}
}

// answers are what all calls answer of these numbers.
type answers struct {
	delay, short, long, window int
	release, mirror, due       bool
}

// of asks all calls.
func of(first int, second int, d int) answers {
	return answers{Delay(d), Short(d), Long(d), Window(d), Release(first, second, d), Mirror(first, second, d), Due(first, second, d)}
}

// P17.2, P3: nothing is kept from call to call: whatever was asked ahead, the same is answered, also in reverse.
func TestNothingKept(t *testing.T) {
	r := rand.New(rand.NewSource(18))
	var asked [][3]int
	var told []answers
	for range 4000 {
		first := 1000 + r.Intn(60)
		asked = append(asked, [3]int{first, first + r.Intn(100) - 20, r.Intn(9) - 2})
	}
	for _, a := range asked {
		told = append(told, of(a[0], a[1], a[2]))
	}
	for place := len(asked) - 1; place >= 0; place-- {
		a := asked[place]
		of(r.Int(), r.Int(), -r.Int())
		if got := of(a[0], a[1], a[2]); got != told[place] {
			t.Fatalf("%v: %v, and %v ahead", a, got, told[place])
		}
	}
}

// P17.2, P3: asked by many at once, all are told the same.
func TestManyAtOnce(t *testing.T) {
	want := of(1000, 1028, 2)
	told := make(chan answers)
	for n := range 16 {
		go func() {
			of(n, 2*n, n)
			told <- of(1000, 1028, 2)
		}()
	}
	for range 16 {
		if got := <-told; got != want {
			t.Errorf("%v, want %v", got, want)
		}
	}
}

// P17.2: a list that is handed in, by whoever calls within the package, is not changed; nor does an answer hang on its order.
func TestTimes(t *testing.T) {
	if !times() || !times(0) || !times(1<<40) || !times(0, 1<<40, 5) {
		t.Error("what are times are none")
	}
	for _, wrong := range []int{-1, 1<<40 + 1, math.MinInt, math.MaxInt} {
		for place := range 4 {
			l := []int{0, 7, 1 << 40, 1000}
			l[place] = wrong
			kept := [4]int(l)
			if times(l...) {
				t.Errorf("%d at %d is taken as a time", wrong, place)
			}
			if [4]int(l) != kept {
				t.Errorf("%v, handed in as %v", l, kept)
			}
		}
	}
}
