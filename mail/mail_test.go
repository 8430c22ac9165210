package mail

import (
	"bytes"
	"encoding/binary"
	"encoding/hex"
	"math"
	"math/big"
	"math/rand"
	"slices"
	"strconv"
	"strings"
	"testing"

	"narrows/api"
	"narrows/bid"
	"narrows/deal"
	"narrows/mss"
	"narrows/wide"
)

// top is the greatest number that a word can be.
const top = uint64(math.MaxUint64)

// most is the greatest wide number.
func most() api.Wide {
	return api.Wide{top, top, top, top}
}

// row is n octets, none like the one next to it.
func row(n int) string {
	b := make([]byte, n)
	for i := range b {
		b[i] = byte(i + i/256 + 1)
	}
	return string(b)
}

// full is a message of that kind with the fields of all kinds, whose numbers are as unlike as they can be.
func full(kind int) api.Message {
	return api.Message{
		Kind: kind,
		Ask:  api.Ask{User: 1, Send: 0, Recv: 1, To: 5, Amount: api.Wide{0x0102030405060708, 0x1112131415161718, 0x2122232425262728, 0x3132333435363738}, Id: "trade"},
		Bid: api.Bid{
			Router: 3,
			Ask:    api.Ask{User: 0, Send: 1, Recv: 0, To: 6, Amount: api.Wide{0x4142434445464748, 0x5152535455565758, 0x6162636465666768, 0x7172737475767778}, Id: "bid's ask"},
			Amount: api.Wide{0x8182838485868788, 0x9192939495969798, 0xa1a2a3a4a5a6a7a8, 0x6162636465666768},
			Until:  0x0102030405,
			Sig:    "bid's sig",
		},
		Inv: api.Inv{User: 1, Root: "\x01\x02\x03\x04\x05\x06\x07\x08", Router: 2, Send: 0, Recv: 1, To: 7, Id: "transfer"},
		Var: api.Var{Amount: api.Wide{0xc1c2c3c4c5c6c7c8, 0xd1d2d3d4d5d6d7d8, 0xe1e2e3e4e5e6e7e8, 0xf1f2f3f4f5f6f7f8}, Expiry: 1028},
		Fee: api.Wide{0x090a0b0c0d0e0f10, 0x191a1b1c1d1e1f20, 0x292a2b2c2d2e2f30, 0x393a3b3c3d3e3f40},
		Sig: "signature",
	}
}

// low and high are messages of that kind whose fields, of all kinds, are as low, or as high, as they may be.
func low(kind int) api.Message {
	a := api.Ask{Amount: api.Wide{1}, Id: "\x00"}
	return api.Message{
		Kind: kind, Ask: a,
		Bid: api.Bid{Router: 2, Ask: a, Amount: api.Wide{1}},
		Inv: api.Inv{Root: strings.Repeat("\x00", 8), Router: 2, Id: "\x00"},
		Var: api.Var{Amount: api.Wide{1}},
	}
}

func high(kind int) api.Message {
	a := api.Ask{User: 1, Send: 1, Recv: 1, To: 7, Amount: most(), Id: row(16)}
	return api.Message{
		Kind: kind, Ask: a,
		Bid: api.Bid{Router: 3, Ask: a, Amount: most(), Until: 1 << 40, Sig: row(1024)},
		Inv: api.Inv{User: 1, Root: strings.Repeat("\xff", 8), Router: 3, Send: 1, Recv: 1, To: 7, Id: row(16)},
		Var: api.Var{Amount: most(), Expiry: 1 << 40},
		Fee: most(), Sig: row(1024),
	}
}

// kinds are all that there are.
func kinds() []int {
	return []int{1, 2, 3}
}

// noKinds are numbers that are no kind's, though the lowest bits of some are.
func noKinds() []int {
	return []int{0, 4, 5, 6, 7, 9, 10, 255, 256, 257, 258, 259, 1 << 16, 1<<16 + 1, 1<<32 + 2, 1 << 40, 1<<40 + 1, 1<<48 + 3, -1, -2, -3, -253, -255, math.MinInt, math.MinInt + 1, math.MinInt + 3, math.MaxInt}
}

// bare is the message with the fields of its kind alone.
func bare(m api.Message) api.Message {
	switch m.Kind {
	case 1:
		return api.Message{Kind: 1, Ask: m.Ask}
	case 2:
		return api.Message{Kind: 2, Bid: m.Bid}
	}
	return api.Message{Kind: m.Kind, Inv: m.Inv, Var: m.Var, Fee: m.Fee, Sig: m.Sig}
}

// amounts are wide numbers above 0, with edges of each word, from the lowest to the highest.
func amounts() []api.Wide {
	return []api.Wide{{1}, {2}, {256}, {1 << 63}, {top}, {0, 1}, {1, 1}, {top, top}, {0, 0, 1}, {0, 1, 1}, {0, 0, 0, 1}, {0, 0, 0, 1 << 63}, {top - 1, top, top, top}, most()}
}

// sound are messages that may be, of each kind: the edges, and all that each field may be, one at a time.
func sound() []api.Message {
	var l []api.Message
	for _, kind := range kinds() {
		l = append(l, full(kind), low(kind), high(kind), bare(full(kind)))
		with := func(set func(*api.Message)) {
			for _, m := range []api.Message{full(kind), low(kind)} {
				set(&m)
				l = append(l, m)
			}
		}
		for n := range 8 {
			with(func(m *api.Message) { m.Ask.To, m.Bid.Ask.To, m.Inv.To = n, n, n })
		}
		for n := range 2 {
			with(func(m *api.Message) { m.Ask.User, m.Bid.Ask.User, m.Inv.User = n, n, n })
			with(func(m *api.Message) { m.Ask.Send, m.Bid.Ask.Send, m.Inv.Send = n, n, n })
			with(func(m *api.Message) { m.Ask.Recv, m.Bid.Ask.Recv, m.Inv.Recv = n, n, n })
			with(func(m *api.Message) { m.Bid.Router, m.Inv.Router = 2+n, 3-n })
		}
		for _, n := range []int{0, 1, 255, 256, 1028, 1<<32 - 1, 1 << 32, 1<<40 - 1, 1 << 40} {
			with(func(m *api.Message) { m.Bid.Until, m.Var.Expiry = n, n })
		}
		for n, a := range amounts() {
			with(func(m *api.Message) { m.Ask.Amount, m.Bid.Ask.Amount, m.Bid.Amount, m.Var.Amount = a, a, a, a })
			with(func(m *api.Message) { m.Bid.Ask.Amount, m.Bid.Amount, m.Fee = a, amounts()[n/2], a })
		}
		for n := 1; n <= 16; n++ {
			with(func(m *api.Message) { m.Ask.Id, m.Bid.Ask.Id, m.Inv.Id = row(n), row(n), row(n) })
		}
		for _, n := range []int{0, 1, 8, 145, 255, 256, 257, 1023, 1024} {
			with(func(m *api.Message) { m.Bid.Sig, m.Sig = row(n), row(n) })
		}
	}
	return l
}

// fault is one thing wrong: its name, the field it is in, its error, and how early it is told.
type fault struct {
	name string
	part string
	err  api.Errno
	rank int
	set  func(*api.Message)
}

// faults are things that may be wrong with a message.
type faults []fault

// numbers adds a fault for each number near, and for numbers that no field but Until or Expiry may be.
func (l *faults) numbers(part string, err api.Errno, rank int, near []int, set func(*api.Message, int)) {
	far := []int{-1, -2, -8, -254, -256, -(1 << 40), math.MinInt, math.MinInt + 1, math.MinInt + 2, 1<<40 + 1, 1<<40 + 2, 1 << 48, 1<<48 + 2, 1 << 62, math.MaxInt}
	for _, n := range slices.Concat(near, far) {
		*l = append(*l, fault{part + " " + strconv.Itoa(n), part, err, rank, func(m *api.Message) { set(m, n) }})
	}
}

// texts adds a fault for each size.
func (l *faults) texts(part string, err api.Errno, rank int, sizes []int, set func(*api.Message, string)) {
	for _, n := range sizes {
		*l = append(*l, fault{part + " of " + strconv.Itoa(n), part, err, rank, func(m *api.Message) { set(m, row(n)) }})
	}
}

// amount adds a fault for 0.
func (l *faults) amount(part string, err api.Errno, rank int, set func(*api.Message, api.Wide)) {
	*l = append(*l, fault{part + " 0", part, err, rank, func(m *api.Message) { set(m, api.Wide{}) }})
}

// Numbers and sizes that may not be, near to those that may.
func four() []int    { return []int{2, 3, 4, 7, 8, 256, 257, 1 << 32, 1<<32 + 1, 1 << 40} }
func eight() []int   { return []int{8, 9, 15, 16, 256, 1 << 32, 1<<32 + 2, 1 << 40} }
func routers() []int { return []int{0, 1, 4, 5, 6, 7, 8, 258, 1<<32 + 2, 1 << 40} }
func ids() []int     { return []int{0, 17, 18, 32, 257, 272, 1024, 1025, 65537} }
func sigs() []int    { return []int{1025, 1026, 2048, 8192, 65536, 65681} }

// ask adds all that may be wrong with an ask.
func (l *faults) ask(part string, of func(*api.Message) *api.Ask) {
	l.numbers(part+"User", api.ErrRoute, 1, four(), func(m *api.Message, n int) { of(m).User = n })
	l.numbers(part+"Send", api.ErrRoute, 1, four(), func(m *api.Message, n int) { of(m).Send = n })
	l.numbers(part+"Recv", api.ErrRoute, 1, four(), func(m *api.Message, n int) { of(m).Recv = n })
	l.numbers(part+"To", api.ErrRoute, 1, eight(), func(m *api.Message, n int) { of(m).To = n })
	l.amount(part+"Amount", api.ErrRoute, 1, func(m *api.Message, a api.Wide) { of(m).Amount = a })
	l.texts(part+"Id", api.ErrRoute, 1, ids(), func(m *api.Message, s string) { of(m).Id = s })
}

// bid adds all that may be wrong with a bid; a Sig that is too long is ErrRoute, as its layer tells.
func (l *faults) bid() {
	l.numbers("Router", api.ErrRoute, 1, routers(), func(m *api.Message, n int) { m.Bid.Router = n })
	l.ask("Ask's ", func(m *api.Message) *api.Ask { return &m.Bid.Ask })
	l.amount("Amount", api.ErrRoute, 1, func(m *api.Message, a api.Wide) { m.Bid.Amount = a })
	for n, a := range amounts()[1:] {
		name := "more than was asked for " + strconv.Itoa(n)
		*l = append(*l, fault{name, "amounts", api.ErrRoute, 1, func(m *api.Message) { m.Bid.Ask.Amount, m.Bid.Amount = amounts()[n], a }})
	}
	l.numbers("Until", api.ErrRoute, 1, []int{1 << 41}, func(m *api.Message, n int) { m.Bid.Until = n })
	l.texts("Sig", api.ErrRoute, 1, sigs(), func(m *api.Message, s string) { m.Bid.Sig = s })
}

// release adds all that may be wrong with a release.
func (l *faults) release() {
	l.numbers("User", api.ErrRoute, 1, four(), func(m *api.Message, n int) { m.Inv.User = n })
	l.numbers("Router", api.ErrRoute, 1, routers(), func(m *api.Message, n int) { m.Inv.Router = n })
	l.numbers("Send", api.ErrRoute, 1, four(), func(m *api.Message, n int) { m.Inv.Send = n })
	l.numbers("Recv", api.ErrRoute, 1, four(), func(m *api.Message, n int) { m.Inv.Recv = n })
	l.numbers("To", api.ErrRoute, 1, eight(), func(m *api.Message, n int) { m.Inv.To = n })
	l.texts("Root", api.ErrRoute, 1, []int{0, 1, 7, 9, 16, 264, 1024, 1025, 65544}, func(m *api.Message, s string) { m.Inv.Root = s })
	l.texts("Id", api.ErrRoute, 1, ids(), func(m *api.Message, s string) { m.Inv.Id = s })
	l.amount("Amount", api.ErrAmount, 2, func(m *api.Message, a api.Wide) { m.Var.Amount = a })
	l.numbers("Expiry", api.ErrAmount, 2, []int{1 << 41}, func(m *api.Message, n int) { m.Var.Expiry = n })
	l.texts("Sig", api.ErrLong, 3, sigs(), func(m *api.Message, s string) { m.Sig = s })
}

// faultsOf are all things that may be wrong with a message of that kind, beside the kind.
func faultsOf(kind int) []fault {
	var l faults
	switch kind {
	case 1:
		l.ask("", func(m *api.Message) *api.Ask { return &m.Ask })
	case 2:
		l.bid()
	case 3:
		l.release()
	}
	return l
}

// numOf, textOf, wideOf, askOf, invOf and octetsOf are octets, written a second time on the standard library.
func numOf(n int) []byte {
	return binary.BigEndian.AppendUint64(nil, uint64(n))[2:]
}

func textOf(s string) []byte {
	return append(binary.BigEndian.AppendUint16(nil, uint16(len(s))), s...)
}

func wideOf(a api.Wide) []byte {
	var b []byte
	for word := 3; word >= 0; word-- {
		b = binary.BigEndian.AppendUint64(b, a[word])
	}
	return b
}

func askOf(a api.Ask) []byte {
	return slices.Concat(numOf(a.User), numOf(a.Send), numOf(a.Recv), numOf(a.To), wideOf(a.Amount), textOf(a.Id))
}

func invOf(word string, i api.Inv) []byte {
	return slices.Concat(textOf(word), numOf(i.User), textOf(i.Root), numOf(i.Router), numOf(i.Send), numOf(i.Recv), numOf(i.To), textOf(i.Id))
}

func octetsOf(m api.Message) []byte {
	b := numOf(m.Kind)
	switch m.Kind {
	case 1:
		return append(b, askOf(m.Ask)...)
	case 2:
		return slices.Concat(b, numOf(m.Bid.Router), askOf(m.Bid.Ask), wideOf(m.Bid.Amount), numOf(m.Bid.Until), textOf(m.Bid.Sig))
	case 3:
		return slices.Concat(b, invOf("inv", m.Inv), wideOf(m.Var.Amount), numOf(m.Var.Expiry), wideOf(m.Fee), textOf(m.Sig))
	}
	return b
}

// order holds two wide numbers against each other, written a second time.
func order(a api.Wide, b api.Wide) int {
	return new(big.Int).SetBytes(wideOf(a)).Cmp(new(big.Int).SetBytes(wideOf(b)))
}

// two tells whether n is 0 or 1, and upTo whether it is from 0 to last.
func two(n int) bool            { return n == 0 || n == 1 }
func upTo(n int, last int) bool { return n >= 0 && n <= last }

// askMayBe, bidMayBe and invMayBe tell whether those may be, written a second time.
func askMayBe(a api.Ask) bool {
	return two(a.User) && two(a.Send) && two(a.Recv) && upTo(a.To, 7) && a.Amount != api.Wide{} && upTo(len(a.Id)-1, 15)
}

func bidMayBe(b api.Bid) bool {
	return two(b.Router-2) && askMayBe(b.Ask) && b.Amount != api.Wide{} && order(b.Amount, b.Ask.Amount) <= 0 && upTo(b.Until, 1<<40) && len(b.Sig) <= 1024
}

func invMayBe(i api.Inv) bool {
	return two(i.User) && two(i.Router-2) && two(i.Send) && two(i.Recv) && upTo(i.To, 7) && len(i.Root) == 8 && upTo(len(i.Id)-1, 15)
}

// errorOf is why a message may not be, written a second time.
func errorOf(m api.Message) api.Errno {
	all := []struct {
		wrong bool
		err   api.Errno
	}{
		{m.Kind < 1 || m.Kind > 3, api.ErrKind},
		{m.Kind == 1 && !askMayBe(m.Ask), api.ErrRoute},
		{m.Kind == 2 && !bidMayBe(m.Bid), api.ErrRoute},
		{m.Kind == 3 && !invMayBe(m.Inv), api.ErrRoute},
		{m.Kind == 3 && (m.Var.Amount == api.Wide{} || !upTo(m.Var.Expiry, 1<<40)), api.ErrAmount},
		{m.Kind == 3 && len(m.Sig) > 1024, api.ErrLong},
	}
	for _, one := range all {
		if one.wrong {
			return one.err
		}
	}
	return api.OK
}

// second reads octets, written a second time.
type second struct {
	b   []byte
	err api.Errno
}

func (s *second) fail(err api.Errno) {
	if s.err == api.OK {
		s.err, s.b = err, nil
	}
}

func (s *second) piece(n int) []byte {
	if n > len(s.b) {
		s.fail(api.ErrSyntax)
	}
	if s.err != api.OK {
		return make([]byte, n)
	}
	p := s.b[:n]
	s.b = s.b[n:]
	return p
}

func (s *second) number() int {
	n := int(binary.BigEndian.Uint64(append([]byte{0, 0}, s.piece(6)...)))
	if n > 1<<40 {
		s.fail(api.ErrRange)
	}
	return n
}

func (s *second) wide() api.Wide {
	var a api.Wide
	p := s.piece(32)
	for word := range a {
		a[word] = binary.BigEndian.Uint64(p[24-8*word:])
	}
	return a
}

func (s *second) text(last int) string {
	n := int(binary.BigEndian.Uint16(s.piece(2)))
	if n > last {
		s.fail(api.ErrRange)
	}
	return string(s.piece(n))
}

// ask, inv and sides are an ask, a transfer and a side's data: each fails where it may not be, ahead of what is behind it.
func (s *second) ask() api.Ask {
	a := api.Ask{User: s.number(), Send: s.number(), Recv: s.number(), To: s.number(), Amount: s.wide(), Id: s.text(16)}
	if !askMayBe(a) {
		s.fail(api.ErrSyntax)
	}
	return a
}

func (s *second) inv() api.Inv {
	word := s.text(16)
	i := api.Inv{User: s.number(), Root: s.text(8), Router: s.number(), Send: s.number(), Recv: s.number(), To: s.number(), Id: s.text(16)}
	if word != "inv" || !invMayBe(i) {
		s.fail(api.ErrSyntax)
	}
	return i
}

func (s *second) sides() api.Var {
	v := api.Var{Amount: s.wide(), Expiry: s.number()}
	if v.Amount == (api.Wide{}) {
		s.fail(api.ErrSyntax)
	}
	return v
}

// messageFrom is what octets tell: it, or the error.
func messageFrom(b []byte) (api.Message, api.Errno) {
	s := &second{b: b}
	if len(b) > 8192 {
		s.fail(api.ErrLong)
	}
	m := api.Message{Kind: s.number()}
	switch m.Kind {
	case 1:
		m.Ask = s.ask()
	case 2:
		m.Bid = api.Bid{Router: s.number(), Ask: s.ask(), Amount: s.wide(), Until: s.number(), Sig: s.text(1024)}
	case 3:
		m.Inv, m.Var = s.inv(), s.sides()
		m.Fee, m.Sig = s.wide(), s.text(1024)
	}
	if errorOf(m) != api.OK || len(s.b) > 0 {
		s.fail(api.ErrSyntax)
	}
	if s.err != api.OK {
		return api.Message{}, s.err
	}
	return m, api.OK
}

// puts fails unless Put answers want and err, and Check err.
func puts(t *testing.T, what string, m api.Message, want []byte, err api.Errno) {
	t.Helper()
	if got := Check(m); got != err {
		t.Fatalf("Check %s of %.300v = %d, want %d", what, m, got, err)
	}
	if b, got := Put(m); got != err || !bytes.Equal(b, want) {
		t.Fatalf("Put %s: %.200x, %d; want %.200x, %d", what, b, got, want, err)
	}
}

// reads fails unless Read of octets answers want and err.
func reads(t *testing.T, what string, b []byte, want api.Message, err api.Errno) {
	t.Helper()
	if m, got := Read(b); m != want || got != err {
		t.Fatalf("Read %s of %.300x: %v, %d; want %v, %d", what, b, m, got, want, err)
	}
}

// refuses fails unless Read of octets answers err, and nothing beside it.
func refuses(t *testing.T, what string, b []byte, err api.Errno) {
	t.Helper()
	reads(t, what, b, api.Message{}, err)
}

// asSecond fails unless Read of octets answers as the second writing does.
func asSecond(t *testing.T, b []byte) {
	t.Helper()
	m, err := messageFrom(b)
	reads(t, "as the second writing", b, m, err)
}

func unhex(t *testing.T, s string) []byte {
	t.Helper()
	b, err := hex.DecodeString(s)
	if err != nil {
		t.Fatal(err)
	}
	return b
}

// made is a message, and its octets in hexadecimal digits.
type made struct {
	m      api.Message
	octets string
}

// written are messages whose octets were worked out outside Go.
func written() []made {
	highest := func(kind int) api.Message {
		m, id, sig := high(kind), "\x00\x01\x02\x03\x04\x05\x06\x07\x08\x09\x0a\x0b\x0c\x0d\x0e\x0f", "\x00\xff"
		m.Ask.Id, m.Bid.Ask.Id, m.Inv.Id, m.Bid.Sig, m.Sig = id, id, id, sig, sig
		return m
	}
	return []made{
		{full(1), "000000000001000000000001000000000000000000000001000000000005313233343536373821222324252627281112131415161718010203040506070800057472616465"},
		{full(2), "0000000000020000000000030000000000000000000000010000000000000000000000067172737475767778616263646566676851525354555657584142434445464748000962696427732061736b6162636465666768a1a2a3a4a5a6a7a8919293949596979881828384858687880001020304050009626964277320736967"},
		{full(3), "0000000000030003696e760000000000010008010203040506070800000000000200000000000000000000000100000000000700087472616e73666572f1f2f3f4f5f6f7f8e1e2e3e4e5e6e7e8d1d2d3d4d5d6d7d8c1c2c3c4c5c6c7c8000000000404393a3b3c3d3e3f40292a2b2c2d2e2f30191a1b1c1d1e1f20090a0b0c0d0e0f1000097369676e6174757265"},
		{low(1), "0000000000010000000000000000000000000000000000000000000000000000000000000000000000000000000000000000000000000000000000000001000100"},
		{low(2), "000000000002000000000002000000000000000000000000000000000000000000000000000000000000000000000000000000000000000000000000000000000000000100010000000000000000000000000000000000000000000000000000000000000000010000000000000000"},
		{low(3), "0000000000030003696e7600000000000000080000000000000000000000000002000000000000000000000000000000000000000100000000000000000000000000000000000000000000000000000000000000000100000000000000000000000000000000000000000000000000000000000000000000000000000000"},
		{highest(1), "000000000001000000000001000000000001000000000001000000000007ffffffffffffffffffffffffffffffffffffffffffffffffffffffffffffffff0010000102030405060708090a0b0c0d0e0f"},
		{highest(2), "000000000002000000000003000000000001000000000001000000000001000000000007ffffffffffffffffffffffffffffffffffffffffffffffffffffffffffffffff0010000102030405060708090a0b0c0d0e0fffffffffffffffffffffffffffffffffffffffffffffffffffffffffffffffff010000000000000200ff"},
		{highest(3), "0000000000030003696e760000000000010008ffffffffffffffff0000000000030000000000010000000000010000000000070010000102030405060708090a0b0c0d0e0fffffffffffffffffffffffffffffffffffffffffffffffffffffffffffffffff010000000000ffffffffffffffffffffffffffffffffffffffffffffffffffffffffffffffff000200ff"},
	}
}

// P10.1: octets that are written out.
func TestWritten(t *testing.T) {
	for _, c := range written() {
		want := unhex(t, c.octets)
		puts(t, "as written", c.m, want, api.OK)
		reads(t, "as written", want, bare(c.m), api.OK)
	}
}

// P10.1, Check and Put: OK of all that may be, and the octets of their fields alone; of unlike ones, but for fields of other kinds, unlike octets.
func TestPut(t *testing.T) {
	seen := map[string]api.Message{}
	for _, m := range sound() {
		puts(t, "", m, octetsOf(m), api.OK)
		b, _ := Put(m)
		if other, ok := seen[string(b)]; ok && other != bare(m) {
			t.Errorf("%v and %v have the same octets", other, m)
		}
		seen[string(b)] = bare(m)
	}
}

// P10.1, Check and Put: ErrKind of all other kinds, ahead of all else; the chapter's example among them.
func TestOfNoKind(t *testing.T) {
	for _, kind := range noKinds() {
		for _, m := range []api.Message{full(kind), high(kind), {Kind: kind}, {Kind: kind, Ask: api.Ask{User: -1}, Bid: api.Bid{Sig: row(1025)}, Inv: api.Inv{Id: row(17)}, Var: api.Var{Expiry: -1}, Sig: row(1025)}} {
			puts(t, "of no kind", m, nil, api.ErrKind)
		}
	}
	puts(t, "of nothing", api.Message{}, nil, api.ErrKind)
}

// P10.1, Check and Put: each thing wrong alone is its error, and nothing beside it; of two the first in the chapter's order.
func TestOfWrong(t *testing.T) {
	for _, kind := range kinds() {
		puts(t, "of nothing else", api.Message{Kind: kind}, nil, api.ErrRoute)
		for _, m := range []api.Message{full(kind), low(kind), high(kind)} {
			for _, one := range faultsOf(kind) {
				wrong := m
				one.set(&wrong)
				puts(t, "with "+one.name, wrong, nil, one.err)
				puts(t, "with "+one.name+" alone of its kind", bare(wrong), nil, one.err)
				for _, other := range faultsOf(kind) {
					if one.part == other.part || one.rank > other.rank || one.part == "amounts" || other.part == "amounts" {
						continue
					}
					both := wrong
					other.set(&both)
					if err := Check(both); err != one.err {
						t.Errorf("Check of kind %d with %s and %s = %d, want %d", kind, one.name, other.name, err, one.err)
					}
				}
			}
		}
	}
}

// P10.1, Check and Put: of a message in which all is wrong, taken back step by step.
func TestStepByStep(t *testing.T) {
	step := func(m api.Message, err api.Errno) {
		t.Helper()
		if err == api.OK {
			puts(t, "step by step", m, octetsOf(m), err)
			return
		}
		puts(t, "step by step", m, nil, err)
	}
	m := api.Message{Kind: 4, Inv: api.Inv{Root: row(9)}, Var: api.Var{Expiry: -1}, Sig: row(1025)}
	step(m, api.ErrKind)
	m.Kind = 3
	step(m, api.ErrRoute)
	m.Inv = full(3).Inv
	step(m, api.ErrAmount)
	m.Var.Amount = api.Wide{0, 0, 0, 1}
	step(m, api.ErrAmount)
	m.Var.Expiry = 0
	step(m, api.ErrLong)
	m.Sig = row(1024)
	step(m, api.OK)
	m.Kind = 2
	step(m, api.ErrRoute)
	m.Bid = full(2).Bid
	step(m, api.OK)
	m.Bid.Sig = row(1025)
	step(m, api.ErrRoute)
	m.Kind = 1
	step(m, api.ErrRoute)
	m.Ask = full(1).Ask
	step(m, api.OK)
}

// P10.1, Check and Put: what a kind has not may be anything, and is not put.
func TestOfWhatAKindHasNot(t *testing.T) {
	junk := api.Message{
		Ask: api.Ask{User: -1, Send: 9, Recv: 2, To: 8, Id: row(17)},
		Bid: api.Bid{Router: -2, Until: -1, Sig: row(5000)},
		Inv: api.Inv{User: 9, Root: row(2000), Router: -9, Send: -1, Recv: 2, To: 99, Id: row(17)},
		Var: api.Var{Expiry: -1}, Fee: most(), Sig: row(70000),
	}
	l := []api.Message{junk, junk, junk}
	l[0].Kind, l[0].Ask = 1, full(1).Ask
	l[1].Kind, l[1].Bid = 2, full(2).Bid
	l[2] = full(3)
	l[2].Ask, l[2].Bid = junk.Ask, junk.Bid
	for n, m := range l {
		puts(t, "with junk of other kinds", m, octetsOf(full(n+1)), api.OK)
	}
}

// P10.1, Check: a release may be with any Fee, and with any Sig that is not too long.
func TestOfAnyFee(t *testing.T) {
	for _, fee := range append(amounts(), api.Wide{}) {
		for _, n := range []int{0, 1, 144, 145, 146, 1023, 1024} {
			m := full(3)
			m.Fee, m.Sig = fee, row(n)
			puts(t, "with any Fee", m, octetsOf(m), api.OK)
		}
	}
}

// P10.1, Check: Ids and signatures are counted in octets, not in letters.
func TestCountsOctets(t *testing.T) {
	for _, kind := range kinds() {
		m := full(kind)
		m.Ask.Id, m.Bid.Ask.Id, m.Inv.Id = strings.Repeat("ä", 8), strings.Repeat("ä", 8), strings.Repeat("ä", 8)
		m.Bid.Sig, m.Sig = strings.Repeat("ä", 512), strings.Repeat("ä", 512)
		puts(t, "with letters of two octets", m, octetsOf(m), api.OK)
		reads(t, "with letters of two octets", octetsOf(m), bare(m), api.OK)
		m.Ask.Id, m.Bid.Ask.Id, m.Inv.Id = strings.Repeat("ä", 9), strings.Repeat("ä", 9), strings.Repeat("ä", 9)
		puts(t, "with 9 letters of two octets", m, nil, api.ErrRoute)
	}
	m := full(3)
	m.Sig = strings.Repeat("ä", 513)
	puts(t, "with 513 letters of two octets", m, nil, api.ErrLong)
}

// P10.1, Put: a bid's fields stand as in its text (8), without its first one, and its Sig behind them.
func TestPutAsTheTextOfABid(t *testing.T) {
	for _, m := range sound() {
		if m.Kind != 2 {
			continue
		}
		want := slices.Concat(numOf(2), bid.Text(m.Bid)[len(textOf("bid")):], textOf(m.Bid.Sig))
		puts(t, "as its text", m, want, api.OK)
	}
}

// P10.1, Read: of all that may be, the fields of its kind alone.
func TestRead(t *testing.T) {
	for _, m := range sound() {
		reads(t, "", octetsOf(m), bare(m), api.OK)
	}
}

// P10.1, Read: octets behind a message are ErrSyntax; though they are another one.
func TestReadOfMore(t *testing.T) {
	for _, m := range sound() {
		b := octetsOf(m)
		for _, more := range [][]byte{{0}, numOf(0), textOf(""), []byte(row(50)), b} {
			refuses(t, "with more behind", slices.Concat(b, more), api.ErrSyntax)
		}
	}
}

// P10.1, Read: what may not be is ErrSyntax, where field's own errors don't tell of it.
func TestReadOfWrong(t *testing.T) {
	for _, kind := range kinds() {
		for _, one := range faultsOf(kind) {
			m := full(kind)
			one.set(&m)
			if want, ok := wrongRead(m); ok {
				refuses(t, "with "+one.name, octetsOf(m), want)
				refuses(t, "with "+one.name+" and more behind", append(octetsOf(m), row(50)...), want)
			}
		}
		refuses(t, "of nothing else", octetsOf(low(kind))[:6], api.ErrSyntax)
	}
	refuses(t, "of an empty ask", octetsOf(api.Message{Kind: 1}), api.ErrSyntax)
	refuses(t, "of an empty bid", octetsOf(api.Message{Kind: 2}), api.ErrSyntax)
	refuses(t, "of an empty release", octetsOf(api.Message{Kind: 3}), api.ErrSyntax)
}

// wrongRead is the error of a message with one thing wrong, as it is read; false, if its fields have no octets.
func wrongRead(m api.Message) (api.Errno, bool) {
	m = bare(m)
	want := api.ErrSyntax
	for _, n := range []int{m.Ask.User, m.Ask.Send, m.Ask.Recv, m.Ask.To, m.Bid.Router, m.Bid.Ask.User, m.Bid.Ask.Send, m.Bid.Ask.Recv, m.Bid.Ask.To, m.Bid.Until, m.Inv.User, m.Inv.Router, m.Inv.Send, m.Inv.Recv, m.Inv.To, m.Var.Expiry} {
		if n < 0 || n >= 1<<48 {
			return 0, false
		}
		if n > 1<<40 {
			want = api.ErrRange
		}
	}
	texts := []struct {
		size int
		last int
	}{{len(m.Ask.Id), 16}, {len(m.Bid.Ask.Id), 16}, {len(m.Inv.Id), 16}, {len(m.Inv.Root), 8}, {len(m.Bid.Sig), 1024}, {len(m.Sig), 1024}}
	for _, s := range texts {
		if s.size > 7000 {
			return 0, false
		}
		if s.size > s.last {
			want = api.ErrRange
		}
	}
	return want, true
}

// P10.1, Read: a release whose first text is another is none; field's ErrRange, if that is too long.
func TestReadOfAnotherWord(t *testing.T) {
	m := full(3)
	rest := octetsOf(m)[6+5:]
	for _, word := range []string{"", "i", "in", "inw", "Inv", "inv\x00", "invinv", "bid", "act", "ask", row(16)} {
		refuses(t, "with another word", slices.Concat(numOf(3), textOf(word), rest), api.ErrSyntax)
	}
	for _, n := range []int{17, 100, 1024, 1025} {
		refuses(t, "with a long word", slices.Concat(numOf(3), textOf(row(n)), rest), api.ErrRange)
	}
	// A field more, or less, moves the others: what is read as the length of a Root, or of an Id, is too great.
	refuses(t, "without the word", slices.Concat(numOf(3), rest), api.ErrRange)
	reads(t, "with its word", slices.Concat(numOf(3), textOf("inv"), rest), bare(m), api.OK)
	b := full(2).Bid
	refuses(t, "of a bid with the word of its text", slices.Concat(numOf(2), bid.Text(b), textOf(b.Sig)), api.ErrRange)
	refuses(t, "of a bid without Sig", slices.Concat(numOf(2), bid.Text(b)[5:]), api.ErrSyntax)
}

// P10.1, Read: other kinds are ErrSyntax, whatever is behind them; above MaxNum they are field's ErrRange.
func TestReadOfNoKind(t *testing.T) {
	for _, kind := range append(noKinds(), 1<<41, 1<<48-1) {
		if kind < 0 || kind >= 1<<48 {
			continue
		}
		want := api.ErrSyntax
		if kind > 1<<40 {
			want = api.ErrRange
		}
		refuses(t, "of no kind alone", numOf(kind), want)
		for _, like := range kinds() {
			refuses(t, "of no kind", slices.Concat(numOf(kind), octetsOf(full(like))[6:]), want)
			refuses(t, "of no kind", slices.Concat(numOf(kind), octetsOf(low(like))[6:]), want)
		}
	}
}

// P10.1, Read: one kind's octets are none of another's.
func TestReadOfAnotherKind(t *testing.T) {
	for _, kind := range kinds() {
		for _, like := range kinds() {
			if kind == like {
				continue
			}
			for _, m := range []api.Message{full(like), low(like), high(like)} {
				b := slices.Concat(numOf(kind), octetsOf(m)[6:])
				if got, err := Read(b); got != (api.Message{}) || err == api.OK {
					t.Errorf("Read of kind %d's octets as %d: %v, %d", like, kind, got, err)
				}
				asSecond(t, b)
			}
		}
	}
}

// P10.1, Read: a number above MaxNum is field's ErrRange, ahead of what else may not be; but not behind an ask or a transfer that failed.
func TestReadOfNumbersAboveAll(t *testing.T) {
	check := func(kind int, want api.Errno, set func(*api.Message, int)) {
		t.Helper()
		for _, n := range []int{1<<40 + 1, 1<<40 + 2, 1 << 41, 1<<48 - 1} {
			m := full(kind)
			set(&m, n)
			refuses(t, "with a number above MaxNum", octetsOf(m), want)
		}
	}
	check(1, api.ErrRange, func(m *api.Message, n int) { m.Ask.User = n })
	check(1, api.ErrRange, func(m *api.Message, n int) { m.Ask.User, m.Ask.Send, m.Ask.Id = 2, n, "" })
	check(1, api.ErrRange, func(m *api.Message, n int) { m.Ask.User, m.Ask.Recv, m.Ask.Id = 2, n, "" })
	check(1, api.ErrRange, func(m *api.Message, n int) { m.Ask.User, m.Ask.To, m.Ask.Id = 2, n, "" })
	check(2, api.ErrRange, func(m *api.Message, n int) { m.Bid.Router, m.Bid.Ask.Id = n, "" })
	check(2, api.ErrRange, func(m *api.Message, n int) { m.Bid.Router, m.Bid.Ask.To = 1, n })
	check(2, api.ErrRange, func(m *api.Message, n int) { m.Bid.Router, m.Bid.Amount, m.Bid.Until = 1, api.Wide{}, n })
	check(2, api.ErrRange, func(m *api.Message, n int) { m.Bid.Amount, m.Bid.Until = most(), n })
	check(2, api.ErrSyntax, func(m *api.Message, n int) { m.Bid.Ask.Id, m.Bid.Until = "", n })
	check(3, api.ErrRange, func(m *api.Message, n int) { m.Inv.User, m.Var.Amount = n, api.Wide{} })
	check(3, api.ErrRange, func(m *api.Message, n int) { m.Inv.User, m.Inv.To = 2, n })
	check(3, api.ErrRange, func(m *api.Message, n int) { m.Var.Amount, m.Var.Expiry = api.Wide{}, n })
	check(3, api.ErrSyntax, func(m *api.Message, n int) { m.Inv.Id, m.Var.Expiry = "", n })
}

// P10.1, Read: a text that is too long is field's ErrRange, ahead of what else may not be; but not behind an ask, a transfer or a side's data that failed.
func TestReadOfLongTexts(t *testing.T) {
	check := func(what string, m api.Message, want api.Errno) {
		t.Helper()
		refuses(t, what, octetsOf(m), want)
		refuses(t, what+", not all there", octetsOf(m)[:len(octetsOf(m))-1], want)
		refuses(t, what+", and more", append(octetsOf(m), 0), want)
	}
	for _, n := range []int{17, 18, 1024, 1025, 4000} {
		m := full(1)
		m.Ask.User, m.Ask.Amount, m.Ask.Id = 2, api.Wide{}, row(n)
		check("with a long Id and more wrong", m, api.ErrRange)
		m = full(2)
		m.Bid.Router, m.Bid.Ask.User, m.Bid.Ask.Id, m.Bid.Amount = 1, 2, row(n), api.Wide{}
		check("with a long Id and more wrong", m, api.ErrRange)
		m = full(3)
		m.Inv.User, m.Inv.Id, m.Var.Amount = 2, row(n), api.Wide{}
		check("with a long Id and more wrong", m, api.ErrRange)
	}
	for _, n := range []int{1025, 1026, 2048, 7000} {
		m := full(2)
		m.Bid.Sig = row(n)
		check("with a long Sig", m, api.ErrRange)
		m.Bid.Router, m.Bid.Amount = 1, most()
		check("with a long Sig and more wrong", m, api.ErrRange)
		m.Bid.Ask.User = 2
		check("with a long Sig behind an ask that failed", m, api.ErrSyntax)
		m = full(3)
		m.Sig = row(n)
		check("with a long Sig", m, api.ErrRange)
		m.Var.Amount = api.Wide{}
		check("with a long Sig behind a side's data that failed", m, api.ErrSyntax)
		m = full(3)
		m.Inv.User, m.Sig = 2, row(n)
		check("with a long Sig behind a transfer that failed", m, api.ErrSyntax)
	}
}

// P10.1, Read: with fewer octets than it needs it is ErrSyntax, and nothing of it is told.
func TestReadOfTooFew(t *testing.T) {
	for _, kind := range kinds() {
		for _, m := range []api.Message{full(kind), low(kind), high(kind)} {
			b := octetsOf(m)
			for n := range b {
				refuses(t, "of too few octets", b[:n], api.ErrSyntax)
			}
		}
	}
	refuses(t, "of nothing", nil, api.ErrSyntax)
	refuses(t, "of nothing", []byte{}, api.ErrSyntax)
}

// P10.1, Read: ErrLong of more octets than may be, though a message stands first; ErrSyntax of as many as may be.
func TestReadOfTooMany(t *testing.T) {
	for _, kind := range append(kinds(), 0) {
		b := append(octetsOf(full(kind)), make([]byte, 70000)...)
		for n, want := range map[int]api.Errno{8191: api.ErrSyntax, 8192: api.ErrSyntax, 8193: api.ErrLong, 10000: api.ErrLong, 65536 + 128: api.ErrLong} {
			refuses(t, "of many octets", b[:n], want)
		}
	}
	for n, want := range map[int]api.Errno{8192: api.ErrRange, 8193: api.ErrLong} {
		refuses(t, "of many octets of no number", bytes.Repeat([]byte{0xff}, n), want)
	}
}

// P10.1, and P1 of DOC.md: of any octets, and of octets that are nearly a message's, Read answers as the second writing does.
func TestReadOfAnyOctets(t *testing.T) {
	for _, kind := range kinds() {
		for _, m := range []api.Message{full(kind), low(kind)} {
			b := octetsOf(m)
			for place := range b {
				for x := range 256 {
					other := slices.Clone(b)
					other[place] = byte(x)
					asSecond(t, other)
				}
				asSecond(t, slices.Delete(slices.Clone(b), place, place+1))
				asSecond(t, slices.Insert(slices.Clone(b), place, 0))
			}
		}
	}
	r := rand.New(rand.NewSource(10))
	for range 10000 {
		b := make([]byte, r.Intn(300))
		for i := range b {
			if r.Intn(3) == 0 {
				b[i] = byte(r.Intn(256) >> r.Intn(8))
			}
		}
		asSecond(t, b)
		if len(b) > 5 {
			copy(b, numOf(1+r.Intn(3)))
			asSecond(t, b)
		}
	}
}

// anyMessage is a message of any fields, nearly all of which may be; stray is how often one may not.
func anyMessage(r *rand.Rand, stray int) api.Message {
	number := func(l ...int) int {
		if r.Intn(stray) == 0 {
			return []int{-1, 2, 4, 7, 8, 1 << 40, 1<<40 + 1, 1 << 48, math.MinInt, math.MaxInt}[r.Intn(10)]
		}
		return l[r.Intn(len(l))]
	}
	wide := func(last int) (api.Wide, int) {
		if r.Intn(stray) == 0 {
			return api.Wide{}, last
		}
		place := r.Intn(last)
		return amounts()[place], place + 1
	}
	text := func(l ...int) string {
		if r.Intn(stray) == 0 {
			return row([]int{0, 7, 9, 17, 1024, 1025}[r.Intn(6)])
		}
		return row(l[r.Intn(len(l))])
	}
	all := len(amounts())
	ask := func() (api.Ask, int) {
		amount, place := wide(all)
		return api.Ask{User: number(0, 1), Send: number(0, 1), Recv: number(0, 1), To: number(0, 4, 7), Amount: amount, Id: text(1, 5, 16)}, place
	}
	m := api.Message{Kind: number(kinds()...), Sig: text(0, 145, 1024)}
	m.Ask, _ = ask()
	m.Bid = api.Bid{Router: number(2, 3), Until: number(0, 1028, 1<<40), Sig: text(0, 145, 1024)}
	var place int
	m.Bid.Ask, place = ask()
	m.Bid.Amount, _ = wide(place)
	if r.Intn(stray) == 0 {
		m.Bid.Amount, _ = wide(all)
	}
	m.Inv = api.Inv{User: number(0, 1), Root: text(8), Router: number(2, 3), Send: number(0, 1), Recv: number(0, 1), To: number(0, 4, 7), Id: text(1, 5, 16)}
	m.Var.Amount, _ = wide(all)
	m.Var.Expiry = number(0, 1028, 1<<40)
	m.Fee, _ = wide(all)
	return m
}

// P10.1, P10.2: of any message Check, Put and Read answer as the second writing does.
func TestOfAny(t *testing.T) {
	r := rand.New(rand.NewSource(110))
	passed := 0
	for n := range 30000 {
		m := anyMessage(r, 5+n%40)
		if want := errorOf(m); want != api.OK {
			puts(t, "of any", m, nil, want)
			continue
		}
		passed++
		puts(t, "of any", m, octetsOf(m), api.OK)
		reads(t, "of any", octetsOf(m), bare(m), api.OK)
	}
	if passed < 5000 || passed > 25000 {
		t.Errorf("%d of any may be", passed)
	}
}

// P10.2: messages come back, but for fields of other kinds, and come back again as they are.
func TestMessagesComeBack(t *testing.T) {
	for _, m := range sound() {
		b, _ := Put(m)
		back, err := Read(b)
		if back != bare(m) || err != api.OK {
			t.Fatalf("%v came back as %v, %d", m, back, err)
		}
		if again, err := Put(back); err != api.OK || !bytes.Equal(again, b) {
			t.Fatalf("%x came back as %x, %d", b, again, err)
		}
	}
}

// P10.2: octets come back, where they are a message's.
func TestOctetsComeBack(t *testing.T) {
	for _, m := range sound() {
		want := octetsOf(m)
		back, _ := Read(want)
		if b, err := Put(back); err != api.OK || !bytes.Equal(b, want) {
			t.Fatalf("%x came back as %x, %d", want, b, err)
		}
	}
}

// P10.2: what was signed is still valid when it came back: a router's bid, and a user's release.
func TestSignedComesBack(t *testing.T) {
	offered, _, err := bid.Sign(api.Key{Seed: bid.Seed(3), Next: 2}, full(2).Bid)
	if err != api.OK {
		t.Fatal(err)
	}
	b, _ := Put(api.Message{Kind: 2, Bid: offered})
	if back, err := Read(b); err != api.OK || !bid.Valid(back.Bid, mss.Root(bid.Seed(3))) {
		t.Errorf("a signed bid came back as %v, %d", back, err)
	}
	m := full(3)
	m.Inv.Root, m.Fee = mss.Root("user"), wide.Of(1)
	m.Sig, _, err = mss.Sign(api.Key{Seed: "user", Next: 5}, deal.Payload(1, deal.Key(m.Inv), m.Fee))
	if err != api.OK {
		t.Fatal(err)
	}
	b, _ = Put(m)
	back, err := Read(b)
	leaf, ok := mss.Verify(back.Inv.Root, deal.Payload(1, deal.Key(back.Inv), back.Fee), back.Sig)
	if err != api.OK || !ok || leaf != 5 {
		t.Errorf("a signed release came back as %v, %d: leaf %d, %t", back, err, leaf, ok)
	}
}

// P10.3, P2 of DOC.md: an answer of Put shares nothing with another one, up to its capacity.
func TestPutIsNewMemory(t *testing.T) {
	for _, kind := range kinds() {
		m := full(kind)
		first, _ := Put(m)
		second, _ := Put(m)
		for i := range second[:cap(second)] {
			second[:cap(second)][i] ^= 0xff
		}
		third, _ := Put(m)
		if !bytes.Equal(first, octetsOf(m)) || !bytes.Equal(third, first) {
			t.Errorf("behind a spoilt answer: %x, %x", first, third)
		}
		if m != full(kind) {
			t.Error("the message changed with an answer")
		}
	}
}

// P10.3, P2 of DOC.md: what is read changes no octets that were handed in, up to their capacity, and does not change with them.
func TestReadIsNewMemory(t *testing.T) {
	for _, kind := range kinds() {
		all := append(octetsOf(full(kind)), row(40)...)
		b := slices.Clone(all)
		m, err := Read(b[:len(b)-40])
		if err != api.OK || !bytes.Equal(b, all) {
			t.Errorf("%x became %x, %d", all, b, err)
		}
		for n := range b {
			b[n] ^= 0xff
		}
		if m != bare(full(kind)) {
			t.Errorf("what was read changed: %v", m)
		}
		refuses(t, "of spoilt octets", b, api.ErrRange)
	}
}

// P3 of DOC.md: the same again answers the same, also side by side.
func TestSideBySide(t *testing.T) {
	l := sound()
	all := func() string {
		var out strings.Builder
		for n, m := range l {
			b, err := Put(m)
			back, _ := Read(b)
			_, none := Read(b[n%len(b):])
			out.WriteString(strconv.Itoa(int(err)) + string(b) + back.Sig + back.Ask.Id + back.Bid.Sig)
			out.WriteString(strconv.Itoa(int(none)) + strconv.Itoa(int(Check(back))))
		}
		return out.String()
	}
	want := all()
	same := make(chan bool)
	for range 4 {
		go func() { same <- all() == want }()
	}
	for range 4 {
		if !<-same {
			t.Error("answers differ when calls run side by side")
		}
	}
}
