package txs

import (
	"bytes"
	"encoding/binary"
	"encoding/hex"
	"math"
	"math/rand"
	"slices"
	"strconv"
	"strings"
	"testing"

	"narrows/api"
	"narrows/field"
)

// top is the greatest number that a word can be.
const top = uint64(math.MaxUint64)

// most is the greatest wide number.
func most() api.Wide {
	return api.Wide{top, top, top, top}
}

// row is n octets, none like the one next to it.
func row(n int) string {
	b := make([]byte, n)
	for i := range b {
		b[i] = byte(i + i/256 + 1)
	}
	return string(b)
}

// full is a transaction of that kind with all fields, whose numbers are as unlike as they can be; none is zero but Send.
func full(kind int) api.Tx {
	return api.Tx{
		From: 6, Nonce: 0x0102030405, Kind: kind, Asset: 1,
		Amount: api.Wide{0x0102030405060708, 0x1112131415161718, 0x2122232425262728, 0x3132333435363738},
		Inv:    api.Inv{User: 1, Root: "\x01\x02\x03\x04\x05\x06\x07\x08", Router: 3, Send: 0, Recv: 1, To: 5, Id: "trade"},
		Var:    api.Var{Amount: api.Wide{0x4142434445464748, 0x5152535455565758, 0x6162636465666768, 0x7172737475767778}, Expiry: 1028},
		Fee:    api.Wide{0x8182838485868788, 0x9192939495969798, 0xa1a2a3a4a5a6a7a8, 0xb1b2b3b4b5b6b7b8},
		Sig:    "signature",
	}
}

// low and high are transactions of that kind whose fields are as low, or as high, as they may be.
func low(kind int) api.Tx {
	t := api.Tx{Kind: kind, Inv: api.Inv{Root: row(8), Router: 2, Id: "\x00"}, Var: api.Var{Amount: api.Wide{1}}}
	if kind < 4 {
		t.Amount = api.Wide{1}
	}
	return t
}

func high(kind int) api.Tx {
	return api.Tx{
		From: 7, Nonce: 1 << 40, Kind: kind, Asset: 1, Amount: most(),
		Inv: api.Inv{User: 1, Root: "\xff\xff\xff\xff\xff\xff\xff\xff", Router: 3, Send: 1, Recv: 1, To: 7, Id: row(16)},
		Var: api.Var{Amount: most(), Expiry: 1 << 40},
		Fee: most(), Sig: row(1024),
	}
}

// kinds are all that there are.
func kinds() []int {
	return []int{1, 2, 3, 4, 5, 6}
}

// noKinds are numbers that are no kind's, though the lowest bits of some are.
func noKinds() []int {
	return []int{0, 7, 8, 9, 10, 14, 15, 16, 255, 256, 257, 262, 1 << 16, 1<<16 + 1, 1<<32 + 4, 1 << 40, 1<<40 + 1, 1<<48 + 5, -1, -2, -6, -255, math.MinInt, math.MinInt + 1, math.MaxInt}
}

// bare is the transaction with the fields that are put alone.
func bare(t api.Tx) api.Tx {
	b := api.Tx{From: t.From, Nonce: t.Nonce, Kind: t.Kind, Asset: t.Asset, Amount: t.Amount}
	switch t.Kind {
	case 1:
		b.Inv.To = t.Inv.To
	case 2:
		b.Inv.Router = t.Inv.Router
	case 4:
		b.Inv, b.Var = t.Inv, t.Var
	case 5, 6:
		b.Inv, b.Var, b.Fee, b.Sig = t.Inv, t.Var, t.Fee, t.Sig
	}
	return b
}

// amounts are wide numbers above 0, with edges of each word.
func amounts() []api.Wide {
	return []api.Wide{{1}, {2}, {256}, {1 << 63}, {top}, {0, 1}, {1, 1}, {top, top}, {0, 0, 1}, {0, 1, 1}, {0, 0, 0, 1}, {0, 0, 0, 1 << 63}, most()}
}

// sound are transactions that may be, of each kind: the edges, and all that each field may be, one at a time.
func sound() []api.Tx {
	var l []api.Tx
	for _, kind := range kinds() {
		l = append(l, full(kind), low(kind), high(kind))
		with := func(set func(*api.Tx)) {
			for _, t := range []api.Tx{full(kind), low(kind)} {
				set(&t)
				l = append(l, t)
			}
		}
		for n := range 8 {
			with(func(t *api.Tx) { t.From = n })
			with(func(t *api.Tx) { t.Inv.To = n })
		}
		for _, n := range []int{0, 1, 255, 256, 1<<32 - 1, 1 << 32, 1<<40 - 1, 1 << 40} {
			with(func(t *api.Tx) { t.Nonce = n })
			with(func(t *api.Tx) { t.Var.Expiry = n })
		}
		for n := range 2 {
			with(func(t *api.Tx) { t.Asset = n })
			with(func(t *api.Tx) { t.Inv.User = n })
			with(func(t *api.Tx) { t.Inv.Router = 2 + n })
			with(func(t *api.Tx) { t.Inv.Send = n })
			with(func(t *api.Tx) { t.Inv.Recv = n })
		}
		for _, a := range amounts() {
			with(func(t *api.Tx) { t.Amount = a })
			with(func(t *api.Tx) { t.Var.Amount = a })
			with(func(t *api.Tx) { t.Fee = a })
		}
		for n := 1; n <= 16; n++ {
			with(func(t *api.Tx) { t.Inv.Id = row(n) })
		}
		for _, n := range []int{0, 1, 8, 145, 255, 256, 257, 1023, 1024} {
			with(func(t *api.Tx) { t.Sig = row(n) })
		}
	}
	return l
}

// fault is one thing wrong: its name, the field it is in, its error, and how early it is told.
type fault struct {
	name string
	part string
	err  api.Errno
	rank int
	set  func(*api.Tx)
}

// faultsOf are all things that may be wrong with a transaction of that kind, beside the kind.
func faultsOf(kind int) []fault {
	var l []fault
	numbers := func(part string, err api.Errno, rank int, near []int, set func(*api.Tx, int)) {
		far := []int{-1, -2, -8, -256, -(1 << 40), math.MinInt, math.MinInt + 1, 1<<40 + 1, 1 << 48, 1<<48 + 2, 1 << 62, math.MaxInt}
		for _, n := range slices.Concat(near, far) {
			l = append(l, fault{part + " " + strconv.Itoa(n), part, err, rank, func(t *api.Tx) { set(t, n) }})
		}
	}
	texts := func(part string, err api.Errno, rank int, sizes []int, set func(*api.Tx, string)) {
		for _, n := range sizes {
			l = append(l, fault{part + " of " + strconv.Itoa(n), part, err, rank, func(t *api.Tx) { set(t, row(n)) }})
		}
	}
	four := []int{2, 3, 4, 7, 8, 256, 257, 1 << 32, 1 << 40}
	eight := []int{8, 9, 15, 16, 256, 1 << 32, 1<<32 + 2, 1 << 40}
	routers := []int{0, 1, 4, 5, 6, 7, 8, 258, 1<<32 + 2, 1 << 40}
	numbers("From", api.ErrRange, 1, eight, func(t *api.Tx, n int) { t.From = n })
	numbers("Nonce", api.ErrRange, 1, []int{1 << 41}, func(t *api.Tx, n int) { t.Nonce = n })
	numbers("Asset", api.ErrRange, 1, four, func(t *api.Tx, n int) { t.Asset = n })
	if kind < 4 {
		l = append(l, fault{"Amount 0", "Amount", api.ErrAmount, 2, func(t *api.Tx) { t.Amount = api.Wide{} }})
	}
	if kind == 1 || kind > 3 {
		numbers("To", api.ErrRoute, 3, eight, func(t *api.Tx, n int) { t.Inv.To = n })
	}
	if kind == 2 || kind > 3 {
		numbers("Router", api.ErrRoute, 3, routers, func(t *api.Tx, n int) { t.Inv.Router = n })
	}
	if kind < 4 {
		return l
	}
	numbers("User", api.ErrRoute, 3, four, func(t *api.Tx, n int) { t.Inv.User = n })
	numbers("Send", api.ErrRoute, 3, four, func(t *api.Tx, n int) { t.Inv.Send = n })
	numbers("Recv", api.ErrRoute, 3, four, func(t *api.Tx, n int) { t.Inv.Recv = n })
	texts("Root", api.ErrRoute, 3, []int{0, 1, 7, 9, 16, 264, 1024, 1025, 65544}, func(t *api.Tx, s string) { t.Inv.Root = s })
	texts("Id", api.ErrRoute, 3, []int{0, 17, 18, 32, 257, 1024, 1025, 65537}, func(t *api.Tx, s string) { t.Inv.Id = s })
	l = append(l, fault{"Var's Amount 0", "Var's Amount", api.ErrAmount, 4, func(t *api.Tx) { t.Var.Amount = api.Wide{} }})
	numbers("Expiry", api.ErrAmount, 4, []int{1 << 41}, func(t *api.Tx, n int) { t.Var.Expiry = n })
	texts("Sig", api.ErrLong, 5, []int{1025, 1026, 2048, 8192, 65536, 65681}, func(t *api.Tx, s string) { t.Sig = s })
	return l
}

// numOf, textOf, wideOf, invOf and octetsOf are octets, written a second time on the standard library.
func numOf(n int) []byte {
	return binary.BigEndian.AppendUint64(nil, uint64(n))[2:]
}

func textOf(s string) []byte {
	return append(binary.BigEndian.AppendUint16(nil, uint16(len(s))), s...)
}

func wideOf(a api.Wide) []byte {
	var b []byte
	for word := 3; word >= 0; word-- {
		b = binary.BigEndian.AppendUint64(b, a[word])
	}
	return b
}

func invOf(word string, i api.Inv) []byte {
	return slices.Concat(textOf(word), numOf(i.User), textOf(i.Root), numOf(i.Router), numOf(i.Send), numOf(i.Recv), numOf(i.To), textOf(i.Id))
}

func octetsOf(t api.Tx) []byte {
	b := slices.Concat(numOf(t.Kind), numOf(t.From), numOf(t.Nonce), numOf(t.Asset), wideOf(t.Amount))
	if t.Kind == 1 {
		b = append(b, numOf(t.Inv.To)...)
	}
	if t.Kind == 2 {
		b = append(b, numOf(t.Inv.Router)...)
	}
	if t.Kind == 4 || t.Kind == 5 || t.Kind == 6 {
		b = slices.Concat(b, invOf("inv", t.Inv), wideOf(t.Var.Amount), numOf(t.Var.Expiry))
	}
	if t.Kind == 5 || t.Kind == 6 {
		b = slices.Concat(b, wideOf(t.Fee), textOf(t.Sig))
	}
	return b
}

// invMayBe tells whether a transfer may be, written a second time.
func invMayBe(i api.Inv) bool {
	two := func(n int) bool { return n == 0 || n == 1 }
	return two(i.User) && two(i.Router-2) && two(i.Send) && two(i.Recv) && i.To >= 0 && i.To < 8 && len(i.Root) == 8 && len(i.Id) > 0 && len(i.Id) < 17
}

// errorOf is why a transaction may not be, written a second time.
func errorOf(t api.Tx) api.Errno {
	upTo := func(n int, last int) bool { return n >= 0 && n <= last }
	moves := t.Kind < 4
	all := []struct {
		wrong bool
		err   api.Errno
	}{
		{t.Kind < 1 || t.Kind > 6, api.ErrKind},
		{!upTo(t.From, 7) || !upTo(t.Nonce, 1<<40) || !upTo(t.Asset, 1), api.ErrRange},
		{moves && t.Amount == api.Wide{}, api.ErrAmount},
		{t.Kind == 1 && !upTo(t.Inv.To, 7), api.ErrRoute},
		{t.Kind == 2 && !upTo(t.Inv.Router-2, 1), api.ErrRoute},
		{!moves && !invMayBe(t.Inv), api.ErrRoute},
		{!moves && (t.Var.Amount == api.Wide{} || !upTo(t.Var.Expiry, 1<<40)), api.ErrAmount},
		{!moves && len(t.Sig) > 1024, api.ErrLong},
	}
	for _, one := range all {
		if one.wrong {
			return one.err
		}
	}
	return api.OK
}

// second reads octets, written a second time.
type second struct {
	b   []byte
	err api.Errno
}

func (s *second) fail(err api.Errno) {
	if s.err == api.OK {
		s.err, s.b = err, nil
	}
}

func (s *second) piece(n int) []byte {
	if n > len(s.b) {
		s.fail(api.ErrSyntax)
	}
	if s.err != api.OK {
		return make([]byte, n)
	}
	p := s.b[:n]
	s.b = s.b[n:]
	return p
}

func (s *second) number() int {
	n := int(binary.BigEndian.Uint64(append([]byte{0, 0}, s.piece(6)...)))
	if n > 1<<40 {
		s.fail(api.ErrRange)
	}
	return n
}

func (s *second) wide() api.Wide {
	var a api.Wide
	p := s.piece(32)
	for word := range a {
		a[word] = binary.BigEndian.Uint64(p[24-8*word:])
	}
	return a
}

func (s *second) text(last int) string {
	n := int(binary.BigEndian.Uint16(s.piece(2)))
	if n > last {
		s.fail(api.ErrRange)
	}
	return string(s.piece(n))
}

// inv and sides are a transfer and a side's data.
func (s *second) inv() api.Inv {
	word := s.text(16)
	i := api.Inv{User: s.number(), Root: s.text(8), Router: s.number(), Send: s.number(), Recv: s.number(), To: s.number(), Id: s.text(16)}
	if word != "inv" || !invMayBe(i) {
		s.fail(api.ErrSyntax)
	}
	return i
}

func (s *second) sides() api.Var {
	v := api.Var{Amount: s.wide(), Expiry: s.number()}
	if v.Amount == (api.Wide{}) {
		s.fail(api.ErrSyntax)
	}
	return v
}

// txFrom is what octets tell: it, the error, and how many octets are left.
func txFrom(b []byte) (api.Tx, api.Errno, int) {
	s := &second{b: b}
	if len(b) > 8192 {
		s.fail(api.ErrLong)
	}
	t := api.Tx{Kind: s.number(), From: s.number(), Nonce: s.number(), Asset: s.number(), Amount: s.wide()}
	if t.Kind == 1 {
		t.Inv.To = s.number()
	}
	if t.Kind == 2 {
		t.Inv.Router = s.number()
	}
	if t.Kind >= 4 && t.Kind <= 6 {
		t.Inv, t.Var = s.inv(), s.sides()
	}
	if t.Kind == 5 || t.Kind == 6 {
		t.Fee, t.Sig = s.wide(), s.text(1024)
	}
	if errorOf(t) != api.OK {
		s.fail(api.ErrSyntax)
	}
	if s.err != api.OK {
		return api.Tx{}, s.err, 0
	}
	return t, api.OK, len(s.b)
}

// put is the octets that an Out was told.
func put(tell func(*field.Out)) ([]byte, api.Errno) {
	w := field.New()
	tell(w)
	return w.Done()
}

// puts fails unless Put puts want, or makes an Out fail with err.
func puts(t *testing.T, what string, x api.Tx, want []byte, err api.Errno) {
	t.Helper()
	if b, got := put(func(w *field.Out) { Put(w, x) }); got != err || !bytes.Equal(b, want) {
		t.Fatalf("Put %s: %.200x, %d; want %.200x, %d", what, b, got, want, err)
	}
}

// left fails unless r has that error, and so many octets left; behind an error nothing is read.
func left(t *testing.T, what string, r *field.In, err api.Errno, size int) {
	t.Helper()
	if r.Err() != err || r.Left() != size {
		t.Fatalf("%s: %d, %d left; want %d, %d left", what, r.Err(), r.Left(), err, size)
	}
	if err == api.OK {
		return
	}
	if n, s, a := r.Num(api.MaxNum), r.Text(api.MaxText), r.Wide(); n != 0 || s != "" || a != (api.Wide{}) {
		t.Fatalf("%s: behind the error %d, %q, %x are read", what, n, s, a)
	}
	if x := Get(r); x != (api.Tx{}) || r.Err() != err {
		t.Fatalf("%s: behind the error %v, %d", what, x, r.Err())
	}
}

// gets fails unless Get of octets answers want, with that error, and so many octets left, and Read tells it likewise.
func gets(t *testing.T, what string, b []byte, want api.Tx, err api.Errno, size int) {
	t.Helper()
	r := field.Open(b)
	if x := Get(r); x != want {
		t.Fatalf("Get %s of %.300x: %v, want %v", what, b, x, want)
	}
	left(t, "Get "+what, r, err, size)
	if size > 0 {
		want, err = api.Tx{}, api.ErrSyntax
	}
	if x, got := Read(b); x != want || got != err {
		t.Fatalf("Read %s of %.300x: %v, %d; want %v, %d", what, b, x, got, want, err)
	}
}

// asSecond fails unless Get and Read of octets answer as the second writing does.
func asSecond(t *testing.T, b []byte) {
	t.Helper()
	x, err, size := txFrom(b)
	gets(t, "as the second writing", b, x, err, size)
}

func unhex(t *testing.T, s string) []byte {
	t.Helper()
	b, err := hex.DecodeString(s)
	if err != nil {
		t.Fatal(err)
	}
	return b
}

// The fields that full's kinds have behind the kind, worked out outside Go, in hexadecimal digits.
const (
	headText = "0000000000060001020304050000000000013132333435363738212223242526272811121314151617180102030405060708"
	dealText = "0003696e7600000000000100080102030405060708000000000003000000000000000000000001000000000005000574726164657172737475767778616263646566676851525354555657584142434445464748000000000404"
	sigText  = "b1b2b3b4b5b6b7b8a1a2a3a4a5a6a7a89192939495969798818283848586878800097369676e6174757265"
)

// made is a transaction, and its octets in hexadecimal digits.
type made struct {
	t      api.Tx
	octets string
}

// written are transactions whose octets were worked out outside Go.
func written() []made {
	lowest := api.Tx{Kind: 6, Inv: api.Inv{Root: "\x00\x00\x00\x00\x00\x00\x00\x00", Router: 2, Id: "a"}, Var: api.Var{Amount: api.Wide{1}}}
	highest := high(5)
	highest.Inv.Id, highest.Sig = "\x00\x01\x02\x03\x04\x05\x06\x07\x08\x09\x0a\x0b\x0c\x0d\x0e\x0f", "\x00\xff"
	return []made{
		{full(1), "000000000001" + headText + "000000000005"},
		{full(2), "000000000002" + headText + "000000000003"},
		{full(3), "000000000003" + headText},
		{full(4), "000000000004" + headText + dealText},
		{full(5), "000000000005" + headText + dealText + sigText},
		{full(6), "000000000006" + headText + dealText + sigText},
		{api.Tx{Kind: 1, Amount: api.Wide{1}}, "0000000000010000000000000000000000000000000000000000000000000000000000000000000000000000000000000000000000000001000000000000"},
		{lowest, "00000000000600000000000000000000000000000000000000000000000000000000000000000000000000000000000000000000000000000003696e7600000000000000080000000000000000000000000002000000000000000000000000000000000000000161000000000000000000000000000000000000000000000000000000000000000100000000000000000000000000000000000000000000000000000000000000000000000000000000"},
		{high(2), "000000000002000000000007010000000000000000000001ffffffffffffffffffffffffffffffffffffffffffffffffffffffffffffffff000000000003"},
		{highest, "000000000005000000000007010000000000000000000001ffffffffffffffffffffffffffffffffffffffffffffffffffffffffffffffff0003696e760000000000010008ffffffffffffffff0000000000030000000000010000000000010000000000070010000102030405060708090a0b0c0d0e0fffffffffffffffffffffffffffffffffffffffffffffffffffffffffffffffff010000000000ffffffffffffffffffffffffffffffffffffffffffffffffffffffffffffffff000200ff"},
	}
}

// P9.1: octets that are written out.
func TestWritten(t *testing.T) {
	for _, c := range written() {
		want := unhex(t, c.octets)
		puts(t, "as written", c.t, want, api.OK)
		gets(t, "as written", want, bare(c.t), api.OK, 0)
		if b, err := Octets(c.t); err != api.OK || !bytes.Equal(b, want) {
			t.Errorf("Octets(%v) = %x, %d; want %s", c.t, b, err, c.octets)
		}
	}
}

// P9.1, Check: OK of all that may be.
func TestCheck(t *testing.T) {
	for _, x := range sound() {
		if err := Check(x); err != api.OK {
			t.Fatalf("Check(%v) = %d", x, err)
		}
	}
}

// P9.1, Check: ErrKind of all other kinds, ahead of all else; the chapter's example among them.
func TestCheckOfNoKind(t *testing.T) {
	for _, kind := range noKinds() {
		wrong := api.Tx{From: -1, Nonce: -1, Kind: kind, Asset: 2, Var: api.Var{Expiry: -1}, Sig: row(1025)}
		for _, x := range []api.Tx{full(kind), high(kind), wrong, {Kind: kind}} {
			if err := Check(x); err != api.ErrKind {
				t.Errorf("Check(%v) = %d", x, err)
			}
		}
	}
}

// P9.1, Check: each thing wrong alone is its error; of two the first in the chapter's order.
func TestCheckOfWrong(t *testing.T) {
	for _, kind := range kinds() {
		for _, x := range []api.Tx{full(kind), low(kind), high(kind)} {
			for _, one := range faultsOf(kind) {
				wrong := x
				one.set(&wrong)
				if err := Check(wrong); err != one.err {
					t.Errorf("Check of kind %d with %s = %d, want %d", kind, one.name, err, one.err)
				}
				for _, other := range faultsOf(kind) {
					both := wrong
					other.set(&both)
					if err := Check(both); one.part != other.part && one.rank <= other.rank && err != one.err {
						t.Errorf("Check of kind %d with %s and %s = %d, want %d", kind, one.name, other.name, err, one.err)
					}
				}
			}
		}
	}
}

// P9.1, Check: of nothing, and of a transaction in which all is wrong, taken back step by step.
func TestCheckStepByStep(t *testing.T) {
	step := func(x api.Tx, want api.Errno) {
		t.Helper()
		if err := Check(x); err != want {
			t.Errorf("Check(%v) = %d, want %d", x, err, want)
		}
	}
	step(api.Tx{}, api.ErrKind)
	x := api.Tx{From: 8, Nonce: -1, Kind: 7, Asset: 2, Inv: api.Inv{User: 2, Root: "r", Router: 4, To: 8}, Sig: row(1025)}
	step(x, api.ErrKind)
	x.Kind = 1
	step(x, api.ErrRange)
	x.From = 7
	step(x, api.ErrRange)
	x.Nonce = 0
	step(x, api.ErrRange)
	x.Asset = 0
	step(x, api.ErrAmount)
	x.Amount = api.Wide{0, 0, 0, 1}
	step(x, api.ErrRoute)
	x.Inv.To = 7
	step(x, api.OK)
	x.Kind = 2
	step(x, api.ErrRoute)
	x.Inv.Router = 2
	step(x, api.OK)
	x.Kind, x.Inv = 3, api.Inv{Router: 9, To: 9}
	step(x, api.OK)
	x.Kind, x.Amount = 4, api.Wide{}
	step(x, api.ErrRoute)
	x.Inv = full(4).Inv
	step(x, api.ErrAmount)
	x.Var.Amount = api.Wide{1}
	step(x, api.ErrLong)
	x.Sig = row(1024)
	step(x, api.OK)
}

// P9.1, Check: what a kind has not may be anything; Sig alone counts of kind 4, too.
func TestCheckOfWhatAKindHasNot(t *testing.T) {
	for kind := 1; kind <= 3; kind++ {
		x := api.Tx{Kind: kind, Amount: api.Wide{1}, Inv: api.Inv{User: 9, Root: row(2000), Router: -9, Send: -1, Recv: 2, To: 99, Id: row(17)}, Var: api.Var{Expiry: -1}, Fee: most(), Sig: row(5000)}
		if kind == 1 {
			x.Inv.To = 7
		}
		if kind == 2 {
			x.Inv.Router = 3
		}
		if err := Check(x); err != api.OK {
			t.Errorf("Check(%v) = %d", x, err)
		}
	}
	for kind := 4; kind <= 6; kind++ {
		x := full(kind)
		x.Amount, x.Fee, x.Sig = api.Wide{}, api.Wide{}, ""
		if err := Check(x); err != api.OK {
			t.Errorf("Check of kind %d without Amount, Fee and Sig = %d", kind, err)
		}
		x.Sig = row(1025)
		if err := Check(x); err != api.ErrLong {
			t.Errorf("Check of kind %d with a long Sig = %d", kind, err)
		}
	}
}

// P9.1, Put: the fields of all that may be.
func TestPut(t *testing.T) {
	for _, x := range sound() {
		puts(t, "", x, octetsOf(x), api.OK)
	}
}

// cantBePut is the error of the first field that can't be put of a transaction's kind; OK, if all can.
func cantBePut(t api.Tx) api.Errno {
	number := func(n int) api.Errno {
		if n < 0 || n > 1<<40 {
			return api.ErrRange
		}
		return api.OK
	}
	text := func(s string) api.Errno {
		if len(s) > 1024 {
			return api.ErrLong
		}
		return api.OK
	}
	all := []api.Errno{number(t.Kind), number(t.From), number(t.Nonce), number(t.Asset)}
	switch i := t.Inv; t.Kind {
	case 1:
		all = append(all, number(i.To))
	case 2:
		all = append(all, number(i.Router))
	case 4, 5, 6:
		all = append(all, number(i.User), text(i.Root), number(i.Router), number(i.Send), number(i.Recv), number(i.To), text(i.Id), number(t.Var.Expiry))
	}
	if t.Kind == 5 || t.Kind == 6 {
		all = append(all, text(t.Sig))
	}
	for _, err := range all {
		if err != api.OK {
			return err
		}
	}
	return api.OK
}

// P9.1, Put: also of what may not be its fields, as they are; or field's error, of the first that can't be one.
func TestPutOfWrong(t *testing.T) {
	check := func(what string, x api.Tx) {
		t.Helper()
		if err := cantBePut(x); err != api.OK {
			puts(t, what, x, nil, err)
			return
		}
		puts(t, what, x, octetsOf(x), api.OK)
	}
	for _, kind := range noKinds() {
		check("of no kind", full(kind))
		check("of no kind", api.Tx{Kind: kind})
	}
	for _, kind := range kinds() {
		check("of nothing else", api.Tx{Kind: kind})
		for _, one := range faultsOf(kind) {
			x := full(kind)
			one.set(&x)
			check(one.name, x)
			x.Var.Expiry = -1
			check(one.name+" and Expiry", x)
			x.Asset = -1
			check(one.name+" and more", x)
		}
	}
	long := full(6)
	long.Inv.Root, long.Inv.Id, long.Sig = row(1024), row(1024), row(1024)
	check("with long texts", long)
}

// P9.1, Put: behind what an Out took; nothing, where it has an error.
func TestPutBehindOthers(t *testing.T) {
	for _, kind := range kinds() {
		x := full(kind)
		b, err := put(func(w *field.Out) {
			w.Num(9)
			Put(w, x)
			Put(w, x)
			w.Text("end")
		})
		want := slices.Concat(numOf(9), octetsOf(x), octetsOf(x), textOf("end"))
		if err != api.OK || !bytes.Equal(b, want) {
			t.Errorf("behind others: %x, %d; want %x", b, err, want)
		}
		b, err = put(func(w *field.Out) {
			w.Num(-1)
			Put(w, x)
		})
		if err != api.ErrRange || len(b) != 0 {
			t.Errorf("behind an error: %x, %d", b, err)
		}
	}
}

// P9.1, Put: all of it goes in where there is just room for it, and nothing with one octet less.
func TestPutWhereThereIsLittleRoom(t *testing.T) {
	for _, kind := range kinds() {
		want := octetsOf(full(kind))
		behind := func(room int) ([]byte, api.Errno) {
			return put(func(w *field.Out) {
				for range 7 {
					w.Text(row(1024))
				}
				w.Text(row(8192 - 7*1026 - 2 - room))
				Put(w, full(kind))
			})
		}
		if b, err := behind(len(want)); err != api.OK || len(b) != 8192 || !bytes.HasSuffix(b, want) {
			t.Errorf("kind %d with just room: %d octets, %d", kind, len(b), err)
		}
		for room := range len(want) {
			if b, err := behind(room); err != api.ErrLong || len(b) != 0 {
				t.Errorf("kind %d with room for %d: %d octets, %d", kind, room, len(b), err)
			}
		}
	}
}

// P9.1, Get: all that may be is read, fields that are not put are zero, and what is behind stays; Read takes nothing behind.
func TestGet(t *testing.T) {
	for _, x := range sound() {
		b := octetsOf(x)
		gets(t, "", b, bare(x), api.OK, 0)
		gets(t, "with one octet behind", append(slices.Clone(b), 0), bare(x), api.OK, 1)
		gets(t, "with more behind", append(b, row(99)...), bare(x), api.OK, 99)
	}
}

// P9.1, Get: what may not be is ErrSyntax, where field's own errors don't tell of it.
func TestGetOfWrong(t *testing.T) {
	for _, kind := range kinds() {
		for _, one := range faultsOf(kind) {
			x := full(kind)
			one.set(&x)
			// A long Sig of kind 4 is in no field that is put.
			if cantBePut(x) != api.OK || kind == 4 && one.part == "Sig" {
				continue
			}
			want := api.ErrSyntax
			if len(x.Inv.Root) > 8 || len(x.Inv.Id) > 16 {
				want = api.ErrRange
			}
			gets(t, "with "+one.name, octetsOf(x), api.Tx{}, want, 0)
			gets(t, "with "+one.name+" and more behind", append(octetsOf(x), row(50)...), api.Tx{}, want, 0)
		}
		gets(t, "of nothing else", octetsOf(api.Tx{Kind: kind}), api.Tx{}, api.ErrSyntax, 0)
	}
}

// P9.1, Get: other kinds are ErrSyntax, whatever is behind them.
func TestGetOfNoKind(t *testing.T) {
	for _, kind := range noKinds() {
		if kind < 0 || kind > 1<<40 {
			continue
		}
		gets(t, "of no kind", octetsOf(full(kind)), api.Tx{}, api.ErrSyntax, 0)
		gets(t, "of no kind", octetsOf(api.Tx{Kind: kind}), api.Tx{}, api.ErrSyntax, 0)
		for _, like := range kinds() {
			b := octetsOf(full(like))
			copy(b, numOf(kind))
			gets(t, "of no kind", b, api.Tx{}, api.ErrSyntax, 0)
		}
	}
}

// P9.1, Get and Read: a number above MaxNum is field's ErrRange, ahead of what may not be.
func TestGetOfNumbersAboveAll(t *testing.T) {
	check := func(kind int, set func(*api.Tx, int)) {
		t.Helper()
		for _, n := range []int{1<<40 + 1, 1<<40 + 2, 1 << 41, 1<<48 - 1} {
			x := full(kind)
			set(&x, n)
			gets(t, "with a number above MaxNum", octetsOf(x), api.Tx{}, api.ErrRange, 0)
		}
	}
	for _, kind := range append(kinds(), 0, 7, 256) {
		check(kind, func(t *api.Tx, n int) { t.Kind = n })
		check(kind, func(t *api.Tx, n int) { t.From = n })
		check(kind, func(t *api.Tx, n int) { t.Nonce = n })
		check(kind, func(t *api.Tx, n int) { t.Asset = n })
		check(kind, func(t *api.Tx, n int) { t.From, t.Nonce, t.Asset, t.Inv.Id = 8, n, 2, "" })
	}
	check(1, func(t *api.Tx, n int) { t.Inv.To = n })
	check(1, func(t *api.Tx, n int) { t.Asset, t.Inv.To = 2, n })
	check(2, func(t *api.Tx, n int) { t.Inv.Router = n })
	check(2, func(t *api.Tx, n int) { t.From, t.Inv.Router = 8, n })
	for kind := 4; kind <= 6; kind++ {
		check(kind, func(t *api.Tx, n int) { t.Inv.User = n })
		check(kind, func(t *api.Tx, n int) { t.Inv.Router = n })
		check(kind, func(t *api.Tx, n int) { t.Inv.Send = n })
		check(kind, func(t *api.Tx, n int) { t.Inv.Recv = n })
		check(kind, func(t *api.Tx, n int) { t.Inv.To = n })
		check(kind, func(t *api.Tx, n int) { t.Var.Expiry = n })
		check(kind, func(t *api.Tx, n int) { t.From, t.Var.Expiry = 8, n })
	}
}

// P9.1, Get and Read: a text that is too long is field's ErrRange, ahead of what may not be; but not behind a transfer that failed.
func TestGetOfLongTexts(t *testing.T) {
	for kind := 4; kind <= 6; kind++ {
		for _, n := range []int{17, 18, 1024, 1025, 4000} {
			x := full(kind)
			x.From, x.Asset, x.Inv.Id = 8, 2, row(n)
			gets(t, "with a long Id and more", octetsOf(x), api.Tx{}, api.ErrRange, 0)
		}
	}
	for kind := 5; kind <= 6; kind++ {
		for _, n := range []int{1025, 1026, 2048, 7000} {
			x := full(kind)
			x.Sig = row(n)
			gets(t, "with a long Sig", octetsOf(x), api.Tx{}, api.ErrRange, 0)
			gets(t, "with a long Sig that is not all there", octetsOf(x)[:300], api.Tx{}, api.ErrRange, 0)
			x.From = 8
			gets(t, "with a long Sig and more", octetsOf(x), api.Tx{}, api.ErrRange, 0)
			x.Inv.User = 2
			gets(t, "with a long Sig behind a transfer that failed", octetsOf(x), api.Tx{}, api.ErrSyntax, 0)
		}
	}
}

// P9.1, Get: with fewer octets than it needs it is ErrSyntax, and nothing of it is told.
func TestGetOfTooFew(t *testing.T) {
	for _, kind := range kinds() {
		for _, x := range []api.Tx{full(kind), low(kind), high(kind)} {
			b := octetsOf(x)
			for n := range b {
				gets(t, "of too few octets", b[:n], api.Tx{}, api.ErrSyntax, 0)
			}
		}
	}
	gets(t, "of nothing", nil, api.Tx{}, api.ErrSyntax, 0)
}

// P9.1, Get: behind an error nothing is read, though octets for it are there, and the error stays.
func TestGetBehindAnError(t *testing.T) {
	all := append(numOf(2), octetsOf(full(5))...)
	spoil := map[string]func() *field.In{
		"ErrRange": func() *field.In {
			r := field.Open(all)
			r.Num(1)
			return r
		},
		"a Spoil": func() *field.In {
			r := field.Open(all)
			r.Num(2)
			r.Spoil()
			return r
		},
		"too many octets": func() *field.In { return field.Open(make([]byte, 8193)) },
	}
	wants := map[string]api.Errno{"ErrRange": api.ErrRange, "a Spoil": api.ErrSyntax, "too many octets": api.ErrLong}
	for what, made := range spoil {
		r := made()
		if x := Get(r); x != (api.Tx{}) {
			t.Errorf("behind %s: %v", what, x)
		}
		left(t, "behind "+what, r, wants[what], 0)
	}
}

// P9.1, Read: ErrLong of more octets than may be, though a transaction stands first; ErrSyntax of as many as may be.
func TestReadOfTooMany(t *testing.T) {
	for _, kind := range kinds() {
		b := append(octetsOf(full(kind)), make([]byte, 10000)...)
		for n, want := range map[int]api.Errno{8191: api.ErrSyntax, 8192: api.ErrSyntax, 8193: api.ErrLong, 10000: api.ErrLong} {
			if x, err := Read(b[:n]); x != (api.Tx{}) || err != want {
				t.Errorf("Read of %d octets: %v, %d; want %d", n, x, err, want)
			}
		}
	}
}

// P9.1, and P1 of DOC.md: of any octets, and of octets that are nearly a transaction's, Get and Read answer as the second writing does.
func TestReadOfAnyOctets(t *testing.T) {
	for _, kind := range kinds() {
		for _, x := range []api.Tx{full(kind), low(kind)} {
			b := octetsOf(x)
			for place := range b {
				for _, flip := range []byte{1, 2, 3, 4, 5, 6, 7, 8, 16, 32, 64, 128, 255} {
					other := slices.Clone(b)
					other[place] ^= flip
					asSecond(t, other)
				}
				asSecond(t, slices.Delete(slices.Clone(b), place, place+1))
				asSecond(t, slices.Insert(slices.Clone(b), place, 0))
			}
		}
	}
	r := rand.New(rand.NewSource(9))
	for range 10000 {
		b := make([]byte, r.Intn(300))
		for i := range b {
			if r.Intn(3) == 0 {
				b[i] = byte(r.Intn(256) >> r.Intn(8))
			}
		}
		asSecond(t, b)
		if len(b) > 5 {
			copy(b, numOf(1+r.Intn(6)))
			asSecond(t, b)
		}
	}
}

// anyTx is a transaction of any fields, nearly all of which may be; stray is how often one may not.
func anyTx(r *rand.Rand, stray int) api.Tx {
	number := func(l ...int) int {
		if r.Intn(stray) == 0 {
			return []int{-1, 2, 4, 7, 8, 1 << 40, 1<<40 + 1, 1 << 48, math.MinInt, math.MaxInt}[r.Intn(10)]
		}
		return l[r.Intn(len(l))]
	}
	wide := func() api.Wide {
		if r.Intn(stray) == 0 {
			return api.Wide{}
		}
		return amounts()[r.Intn(len(amounts()))]
	}
	text := func(l ...int) string {
		if r.Intn(stray) == 0 {
			return row([]int{0, 7, 9, 17, 1024, 1025}[r.Intn(6)])
		}
		return row(l[r.Intn(len(l))])
	}
	return api.Tx{
		From: number(0, 3, 7), Nonce: number(0, 1, 1<<40), Kind: number(kinds()...), Asset: number(0, 1), Amount: wide(),
		Inv: api.Inv{User: number(0, 1), Root: text(8), Router: number(2, 3), Send: number(0, 1), Recv: number(0, 1), To: number(0, 4, 7), Id: text(1, 5, 16)},
		Var: api.Var{Amount: wide(), Expiry: number(0, 1028, 1<<40)}, Fee: wide(), Sig: text(0, 145, 1024),
	}
}

// P9.1, P9.2: of any transaction Check, Put, Octets and Read answer as the second writing does.
func TestOfAny(t *testing.T) {
	r := rand.New(rand.NewSource(99))
	passed := 0
	for n := range 30000 {
		x := anyTx(r, 5+n%40)
		want := errorOf(x)
		if err := Check(x); err != want {
			t.Fatalf("Check(%v) = %d, want %d", x, err, want)
		}
		if err := cantBePut(x); err != api.OK {
			puts(t, "of any", x, nil, err)
		} else {
			puts(t, "of any", x, octetsOf(x), api.OK)
		}
		b, err := Octets(x)
		if err != want || want != api.OK && len(b) != 0 || want == api.OK && !bytes.Equal(b, octetsOf(x)) {
			t.Fatalf("Octets(%v) = %x, %d; want %d", x, b, err, want)
		}
		if want == api.OK {
			passed++
			gets(t, "of any", b, bare(x), api.OK, 0)
		}
	}
	if passed < 3000 || passed > 27000 {
		t.Errorf("%d of any may be", passed)
	}
}

// P9.1, Octets: those of all that may be; of unlike ones, but for fields that are not put, unlike octets.
func TestOctets(t *testing.T) {
	seen := map[string]api.Tx{}
	for _, x := range sound() {
		b, err := Octets(x)
		if err != api.OK || !bytes.Equal(b, octetsOf(x)) {
			t.Fatalf("Octets(%v) = %x, %d; want %x", x, b, err, octetsOf(x))
		}
		if other, ok := seen[string(b)]; ok && other != bare(x) {
			t.Errorf("%v and %v have the same octets", other, x)
		}
		seen[string(b)] = bare(x)
	}
}

// P9.1, Octets: Check's error, ahead of field's, and nothing beside it.
func TestOctetsOfWrong(t *testing.T) {
	wrong := func(what string, x api.Tx, want api.Errno) {
		t.Helper()
		if b, err := Octets(x); err != want || len(b) != 0 {
			t.Errorf("Octets %s: %x, %d; want %d", what, b, err, want)
		}
	}
	for _, kind := range noKinds() {
		wrong("of no kind", full(kind), api.ErrKind)
	}
	for _, kind := range kinds() {
		for _, one := range faultsOf(kind) {
			x := full(kind)
			one.set(&x)
			wrong("with "+one.name, x, one.err)
		}
	}
	wrong("of nothing", api.Tx{}, api.ErrKind)
}

// P9.2: transactions come back, but for fields that are not put, by Octets and Read, and one behind the other by Put and Get.
func TestTransactionsComeBack(t *testing.T) {
	l := sound()
	for _, x := range l {
		b, _ := Octets(x)
		if back, err := Read(b); back != bare(x) || err != api.OK {
			t.Fatalf("%v came back as %v, %d", x, back, err)
		}
	}
	for from := 0; from+5 <= len(l); from += 5 {
		some := l[from : from+5]
		b, err := put(func(w *field.Out) {
			for _, x := range some {
				Put(w, x)
			}
		})
		if err != api.OK {
			t.Fatalf("Put: %d", err)
		}
		r := field.Open(b)
		for _, x := range some {
			if back := Get(r); back != bare(x) {
				t.Fatalf("%v came back as %v", x, back)
			}
		}
		left(t, "all came back", r, api.OK, 0)
	}
}

// P9.2: octets come back, where they are a transaction's.
func TestOctetsComeBack(t *testing.T) {
	for _, x := range sound() {
		want := octetsOf(x)
		back, _ := Read(want)
		if b, err := Octets(back); err != api.OK || !bytes.Equal(b, want) {
			t.Fatalf("%x came back as %x, %d", want, b, err)
		}
	}
}

// changes are transactions unlike x in one field each, with the field's name.
func changes(x api.Tx) map[string]api.Tx {
	l := map[string]api.Tx{}
	change := func(name string, set func(*api.Tx)) {
		other := x
		set(&other)
		l[name] = other
	}
	change("From", func(t *api.Tx) { t.From++ })
	change("From, far away", func(t *api.Tx) { t.From += 1 << 40 })
	change("Nonce", func(t *api.Tx) { t.Nonce ^= math.MinInt })
	change("Nonce, near", func(t *api.Tx) { t.Nonce-- })
	change("Kind", func(t *api.Tx) { t.Kind++ })
	change("Asset", func(t *api.Tx) { t.Asset ^= 1 })
	for word := range 4 {
		change("Amount "+strconv.Itoa(word), func(t *api.Tx) { t.Amount[word] ^= 1 })
		change("Var's Amount "+strconv.Itoa(word), func(t *api.Tx) { t.Var.Amount[word] ^= 1 << 63 })
		change("Fee "+strconv.Itoa(word), func(t *api.Tx) { t.Fee[word]++ })
	}
	change("User", func(t *api.Tx) { t.Inv.User ^= 1 })
	change("Root", func(t *api.Tx) { t.Inv.Root = "\x01" + t.Inv.Root })
	change("Root's case", func(t *api.Tx) { t.Inv.Root += "A" })
	change("Router", func(t *api.Tx) { t.Inv.Router ^= 1 })
	change("Send", func(t *api.Tx) { t.Inv.Send ^= 1 })
	change("Recv", func(t *api.Tx) { t.Inv.Recv ^= 1 })
	change("To", func(t *api.Tx) { t.Inv.To-- })
	change("Id", func(t *api.Tx) { t.Inv.Id += "\x00" })
	change("Expiry", func(t *api.Tx) { t.Var.Expiry++ })
	change("Sig", func(t *api.Tx) { t.Sig += "\x00" })
	change("Sig's first octet", func(t *api.Tx) { t.Sig = "S" + t.Sig })
	return l
}

// P9.1, Same: all fields alike, also of those that are not put, and of those that may not be.
func TestSame(t *testing.T) {
	l := []api.Tx{{}, {Kind: 9, From: -1, Sig: row(2000)}}
	for _, kind := range kinds() {
		l = append(l, full(kind), low(kind), high(kind))
		// Of kinds 1 to 4 not all fields are put.
		if kind <= 4 {
			l = append(l, bare(full(kind)))
		}
	}
	for _, x := range l {
		again := x
		again.Inv.Root, again.Inv.Id, again.Sig = strings.Clone(x.Inv.Root), strings.Clone(x.Inv.Id), strings.Clone(x.Sig)
		if !Same(x, x) || !Same(x, again) || !Same(again, x) {
			t.Errorf("%v is not the same as itself", x)
		}
		for what, other := range changes(x) {
			if Same(x, other) || Same(other, x) {
				t.Errorf("%v is the same with another %s", x, what)
			}
			if !Same(other, other) {
				t.Errorf("%v is not the same as itself", other)
			}
		}
	}
	for n, a := range l {
		for m, b := range l {
			if Same(a, b) != (n == m) {
				t.Errorf("Same(%v, %v) = %t", a, b, n != m)
			}
		}
	}
}

// P1 of DOC.md: of objects that nobody made nothing is read, and they take nothing.
func TestOfWhatNobodyMade(t *testing.T) {
	for what, w := range map[string]*field.Out{"nil": nil, "zero": {}} {
		for _, kind := range append(noKinds(), kinds()...) {
			Put(w, full(kind))
		}
		if b, err := w.Done(); err != api.ErrState || len(b) != 0 {
			t.Errorf("%s: %x, %d", what, b, err)
		}
	}
	for what, r := range map[string]*field.In{"nil": nil, "zero": {}} {
		if x := Get(r); x != (api.Tx{}) {
			t.Errorf("%s: %v", what, x)
		}
		left(t, what, r, api.ErrState, 0)
	}
}

// P9.3, P2 of DOC.md: an answer of Octets shares nothing with another one, up to its capacity.
func TestOctetsAreNewMemory(t *testing.T) {
	for _, kind := range kinds() {
		x := full(kind)
		first, _ := Octets(x)
		second, _ := Octets(x)
		for i := range second[:cap(second)] {
			second[:cap(second)][i] ^= 0xff
		}
		third, _ := Octets(x)
		if !bytes.Equal(first, octetsOf(x)) || !bytes.Equal(third, first) {
			t.Errorf("behind a spoilt answer: %x, %x", first, third)
		}
		if x != full(kind) {
			t.Error("the transaction changed with an answer")
		}
	}
}

// P9.3, P2 of DOC.md: what is read changes no octets that were handed in, up to their capacity, and does not change with them.
func TestReadIsNewMemory(t *testing.T) {
	for _, kind := range kinds() {
		all := append(octetsOf(full(kind)), row(40)...)
		b := slices.Clone(all)
		size := len(b) - 40
		r := field.Open(b[:size])
		got := Get(r)
		read, err := Read(b[:size])
		if err != api.OK || !bytes.Equal(b, all) {
			t.Errorf("%x became %x, %d", all, b, err)
		}
		for n := range b {
			b[n] ^= 0xff
		}
		if got != bare(full(kind)) || read != got {
			t.Errorf("what was read changed: %v, %v", got, read)
		}
	}
}

// P3 of DOC.md: the same again answers the same, also side by side.
func TestSideBySide(t *testing.T) {
	l := sound()
	all := func() string {
		var out strings.Builder
		for n, x := range l {
			b, err := Octets(x)
			back, _ := Read(b)
			out.WriteString(strconv.Itoa(int(err)) + string(b) + back.Sig + back.Inv.Id)
			out.WriteString(strconv.FormatBool(Same(x, l[n/2])) + strconv.Itoa(int(Check(back))))
		}
		return out.String()
	}
	want := all()
	same := make(chan bool)
	for range 4 {
		go func() { same <- all() == want }()
	}
	for range 4 {
		if !<-same {
			t.Error("answers differ when calls run side by side")
		}
	}
}
