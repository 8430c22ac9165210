package deal

import (
	"bytes"
	"crypto/sha256"
	"encoding/binary"
	"encoding/hex"
	"math"
	"math/rand"
	"slices"
	"strconv"
	"strings"
	"testing"

	"narrows/api"
	"narrows/field"
)

// sample is a transfer whose numbers are as unlike as they can be.
func sample() api.Inv {
	return api.Inv{User: 1, Root: "\x01\x02\x03\x04\x05\x06\x07\x08", Router: 3, Send: 0, Recv: 1, To: 5, Id: "trade"}
}

// sampleVar is data of a side whose octets are all unlike.
func sampleVar() api.Var {
	return api.Var{Amount: api.Wide{0x0102030405060708, 0x1112131415161718, 0x2122232425262728, 0x3132333435363738}, Expiry: 1028}
}

// row is n octets, none like the one next to it.
func row(n int) string {
	b := make([]byte, n)
	for i := range b {
		b[i] = byte(i + i/256 + 1)
	}
	return string(b)
}

// transfers are all that may be, but for a few Roots and Ids of each length.
func transfers() []api.Inv {
	var l []api.Inv
	roots := []string{"\x00\x00\x00\x00\x00\x00\x00\x00", "rootroot", "\xff\xfe\xfd\xfc\x80\x81\x82\x83"}
	for n := range 2 * 2 * 2 * 2 * 8 {
		i := api.Inv{User: n & 1, Router: 2 + n>>1&1, Send: n >> 2 & 1, Recv: n >> 3 & 1, To: n >> 4}
		for size := 1; size <= 16; size++ {
			i.Root = roots[(n+size)%len(roots)]
			for _, id := range []string{row(size), strings.Repeat("\x00", size), strings.Repeat("\xff", size)} {
				i.Id = id
				l = append(l, i)
			}
		}
	}
	return l
}

// noNumbers are numbers that no field of a transfer may be, though the lowest bits of some could; those that a field can't take are among them.
func noNumbers() []int {
	return []int{-1, -2, -8, -256, -(1 << 40), -(1 << 48), math.MinInt, math.MinInt + 1, math.MinInt + 2, 8, 9, 15, 16, 255, 256, 257, 258, 1 << 16, 1 << 32, 1<<32 + 2, 1<<40 - 1, 1 << 40, 1<<40 + 1, 1<<40 + 2, 1 << 48, 1<<48 + 2, 1 << 62, math.MaxInt}
}

// wrongs are transfers that may not be, each for one reason alone, with a name.
func wrongs(i api.Inv) map[string]api.Inv {
	l := map[string]api.Inv{}
	bad := func(name string, n int, set func(*api.Inv)) {
		wrong := i
		set(&wrong)
		l[name+" "+strconv.Itoa(n)] = wrong
	}
	numbers := func(name string, near []int, set func(*api.Inv, int)) {
		for _, n := range slices.Concat(near, noNumbers()) {
			bad(name, n, func(i *api.Inv) { set(i, n) })
		}
	}
	numbers("User", []int{2, 3, 4, 7}, func(i *api.Inv, n int) { i.User = n })
	numbers("Router", []int{0, 1, 4, 5, 6, 7}, func(i *api.Inv, n int) { i.Router = n })
	numbers("Send", []int{2, 3, 4, 7}, func(i *api.Inv, n int) { i.Send = n })
	numbers("Recv", []int{2, 3, 4, 7}, func(i *api.Inv, n int) { i.Recv = n })
	numbers("To", nil, func(i *api.Inv, n int) { i.To = n })
	for _, n := range []int{0, 1, 2, 6, 7, 9, 10, 15, 16, 17, 32, 255, 264, 1024, 1025, 65544} {
		bad("Root of", n, func(i *api.Inv) { i.Root = row(n) })
	}
	for _, n := range []int{0, 17, 18, 32, 255, 256, 257, 272, 1024, 1025, 65537} {
		bad("Id of", n, func(i *api.Inv) { i.Id = row(n) })
	}
	return l
}

// vars are data of a side that may be: with edges of each word, and of Expiry.
func vars() []api.Var {
	m := uint64(math.MaxUint64)
	l := []api.Var{sampleVar()}
	for _, a := range []api.Wide{{1}, {2}, {0, 1}, {0, 0, 1}, {0, 0, 0, 1}, {m}, {0, 0, 0, 1 << 63}, {m, m, m, m}} {
		for _, expiry := range []int{0, 1, 2, 255, 256, 1 << 20, 1 << 32, 1<<40 - 1, 1 << 40} {
			l = append(l, api.Var{Amount: a, Expiry: expiry})
		}
	}
	return l
}

// wrongVars are data of a side that may not be, each for one reason, and for both.
func wrongVars() []api.Var {
	l := []api.Var{{}, {Expiry: 1}, {Expiry: 1 << 40}, {Expiry: -1}, {Expiry: 1<<40 + 1}}
	for _, expiry := range []int{-1, -2, -(1 << 40), -(1 << 48), math.MinInt, math.MinInt + 1, 1<<40 + 1, 1 << 41, 1 << 48, 1<<48 + 1, 1 << 62, math.MaxInt} {
		l = append(l, api.Var{Amount: api.Wide{1}, Expiry: expiry}, api.Var{Amount: api.Wide{0, 0, 0, 1}, Expiry: expiry})
	}
	return l
}

// numOf, textOf, wideOf, invOf, varOf and payloadOf are octets, written a second time on the standard library.
func numOf(n int) []byte {
	return binary.BigEndian.AppendUint64(nil, uint64(n))[2:]
}

func textOf(s string) []byte {
	return append(binary.BigEndian.AppendUint16(nil, uint16(len(s))), s...)
}

func wideOf(a api.Wide) []byte {
	var b []byte
	for word := 3; word >= 0; word-- {
		b = binary.BigEndian.AppendUint64(b, a[word])
	}
	return b
}

func invOf(word string, i api.Inv) []byte {
	return slices.Concat(textOf(word), numOf(i.User), textOf(i.Root), numOf(i.Router), numOf(i.Send), numOf(i.Recv), numOf(i.To), textOf(i.Id))
}

func varOf(v api.Var) []byte {
	return append(wideOf(v.Amount), numOf(v.Expiry)...)
}

func payloadOf(act int, key string, fee api.Wide) []byte {
	return slices.Concat(textOf("act"), numOf(act), textOf(key), wideOf(fee))
}

// sumOf is the standard library's sum, as a text.
func sumOf(l ...[]byte) string {
	sum := sha256.Sum256(slices.Concat(l...))
	return string(sum[:])
}

// mayBe tells whether a transfer may be, written a second time.
func mayBe(i api.Inv) bool {
	user := i.User == 0 || i.User == 1
	router := i.Router == 2 || i.Router == 3
	assets := (i.Send == 0 || i.Send == 1) && (i.Recv == 0 || i.Recv == 1)
	return user && router && assets && i.To >= 0 && i.To < 8 && len(i.Root) == 8 && len(i.Id) > 0 && len(i.Id) < 17
}

// second reads octets, written a second time.
type second struct {
	b   []byte
	err api.Errno
}

func (s *second) piece(n int) []byte {
	if s.err == api.OK && n > len(s.b) {
		s.err = api.ErrSyntax
	}
	if s.err != api.OK {
		s.b = nil
		return make([]byte, n)
	}
	p := s.b[:n]
	s.b = s.b[n:]
	return p
}

func (s *second) number() int {
	n := int(binary.BigEndian.Uint64(append([]byte{0, 0}, s.piece(6)...)))
	if n > 1<<40 {
		s.err, s.b = api.ErrRange, nil
	}
	return n
}

func (s *second) text(most int) string {
	n := int(binary.BigEndian.Uint16(s.piece(2)))
	if n > most {
		s.err, s.b = api.ErrRange, nil
	}
	return string(s.piece(n))
}

// invFrom and varFrom are what octets tell: it, the error, and how many octets are left.
func invFrom(b []byte) (api.Inv, api.Errno, int) {
	s := &second{b: b}
	word := s.text(16)
	i := api.Inv{User: s.number(), Root: s.text(8), Router: s.number(), Send: s.number(), Recv: s.number(), To: s.number(), Id: s.text(16)}
	if s.err == api.OK && (word != "inv" || !mayBe(i)) {
		s.err = api.ErrSyntax
	}
	if s.err != api.OK {
		return api.Inv{}, s.err, 0
	}
	return i, api.OK, len(s.b)
}

func varFrom(b []byte) (api.Var, api.Errno, int) {
	s := &second{b: b}
	var v api.Var
	amount := s.piece(32)
	for word := range v.Amount {
		v.Amount[word] = binary.BigEndian.Uint64(amount[24-8*word:])
	}
	v.Expiry = s.number()
	if s.err == api.OK && v.Amount == (api.Wide{}) {
		s.err = api.ErrSyntax
	}
	if s.err != api.OK {
		return api.Var{}, s.err, 0
	}
	return v, api.OK, len(s.b)
}

// put is the octets that an Out was told.
func put(tell func(*field.Out)) ([]byte, api.Errno) {
	w := field.New()
	tell(w)
	return w.Done()
}

// putsInv fails unless Put puts want, or makes an Out fail with err.
func putsInv(t *testing.T, what string, i api.Inv, want []byte, err api.Errno) {
	t.Helper()
	if b, got := put(func(w *field.Out) { Put(w, i) }); got != err || !bytes.Equal(b, want) {
		t.Fatalf("Put %s: %.100x, %d; want %.100x, %d", what, b, got, want, err)
	}
}

// putsVar fails unless PutVar puts want, or makes an Out fail with err.
func putsVar(t *testing.T, v api.Var, want []byte, err api.Errno) {
	t.Helper()
	if b, got := put(func(w *field.Out) { PutVar(w, v) }); got != err || !bytes.Equal(b, want) {
		t.Fatalf("PutVar of %v: %x, %d; want %x, %d", v, b, got, want, err)
	}
}

// read fails unless r has that error, and so many octets left; behind an error nothing is read.
func read(t *testing.T, what string, r *field.In, err api.Errno, left int) {
	t.Helper()
	if r.Err() != err || r.Left() != left {
		t.Fatalf("%s: %d, %d left; want %d, %d left", what, r.Err(), r.Left(), err, left)
	}
	if err == api.OK {
		return
	}
	if n, s, a := r.Num(api.MaxNum), r.Text(api.MaxText), r.Wide(); n != 0 || s != "" || a != (api.Wide{}) {
		t.Fatalf("%s: behind the error %d, %q, %x are read", what, n, s, a)
	}
	if i, v := Get(r), GetVar(r); i != (api.Inv{}) || v != (api.Var{}) || r.Err() != err {
		t.Fatalf("%s: behind the error %v, %v, %d", what, i, v, r.Err())
	}
}

// getsInv fails unless Get of octets answers want, with that error, and so many octets left.
func getsInv(t *testing.T, what string, b []byte, want api.Inv, err api.Errno, left int) {
	t.Helper()
	r := field.Open(b)
	if i := Get(r); i != want {
		t.Fatalf("Get %s of %x: %v, want %v", what, b, i, want)
	}
	read(t, "Get "+what, r, err, left)
}

// getsVar fails unless GetVar of octets answers want, with that error, and so many octets left.
func getsVar(t *testing.T, what string, b []byte, want api.Var, err api.Errno, left int) {
	t.Helper()
	r := field.Open(b)
	if v := GetVar(r); v != want {
		t.Fatalf("GetVar %s of %x: %v, want %v", what, b, v, want)
	}
	read(t, "GetVar "+what, r, err, left)
}

func unhex(t *testing.T, s string) string {
	t.Helper()
	b, err := hex.DecodeString(s)
	if err != nil {
		t.Fatal(err)
	}
	return string(b)
}

// made is a transfer with all that is made of it, in hexadecimal digits; amount is its Amount, and the fee of both payloads.
type made struct {
	i                                           api.Inv
	v                                           api.Var
	octets, key, digest, fulfil, cancel, amount string
}

// written are transfers of which all was worked out outside Go.
func written() []made {
	m := uint64(math.MaxUint64)
	zeros := strings.Repeat("00", 31)
	return []made{
		{
			api.Inv{User: 0, Root: "\x00\x00\x00\x00\x00\x00\x00\x00", Router: 2, Id: "a"}, api.Var{Amount: api.Wide{1}},
			"0003696e7600000000000000080000000000000000000000000002000000000000000000000000000000000000000161",
			"081071e2c8d6d7bd78b244f6f5e22db78f43f5039707a249fb84d2fc5a9935d3",
			"0904299eec3d901df35a97090acd9726673ac14bb42b4f48977aa7dea6ed275f",
			"00036163740000000000010020081071e2c8d6d7bd78b244f6f5e22db78f43f5039707a249fb84d2fc5a9935d3",
			"00036163740000000000020020081071e2c8d6d7bd78b244f6f5e22db78f43f5039707a249fb84d2fc5a9935d3",
			zeros + "01",
		},
		{
			sample(), sampleVar(),
			"0003696e760000000000010008010203040506070800000000000300000000000000000000000100000000000500057472616465",
			"430aa27f11b4a39a4e1ef4e78cfcf2c24f4bf32f0dfc737774c770fc1e6e9c65",
			"8abf540050bfd593ab5209b6e5b764e4f960dbca2913c2a778233e29f710d3c9",
			"00036163740000000000010020430aa27f11b4a39a4e1ef4e78cfcf2c24f4bf32f0dfc737774c770fc1e6e9c65",
			"00036163740000000000020020430aa27f11b4a39a4e1ef4e78cfcf2c24f4bf32f0dfc737774c770fc1e6e9c65",
			"3132333435363738212223242526272811121314151617180102030405060708",
		},
		{
			api.Inv{User: 1, Root: "\xff\xff\xff\xff\xff\xff\xff\xff", Router: 3, Send: 1, Recv: 1, To: 7, Id: "\x00\x01\x02\x03\x04\x05\x06\x07\x08\x09\x0a\x0b\x0c\x0d\x0e\x0f"},
			api.Var{Amount: api.Wide{m, m, m, m}, Expiry: 1 << 40},
			"0003696e760000000000010008ffffffffffffffff0000000000030000000000010000000000010000000000070010000102030405060708090a0b0c0d0e0f",
			"fa0db55cc888b7c5a39976f09395f9245c01216705fd18cab6c5826c791059bf",
			"32d22951e12f7c146482a8fddd0c7fdc98c1fc2b6b1321b1f70c69e8b70de7b3",
			"00036163740000000000010020fa0db55cc888b7c5a39976f09395f9245c01216705fd18cab6c5826c791059bf",
			"00036163740000000000020020fa0db55cc888b7c5a39976f09395f9245c01216705fd18cab6c5826c791059bf",
			strings.Repeat("ff", 32),
		},
	}
}

// P7.1: octets, keys, digests and payloads that are written out.
func TestWritten(t *testing.T) {
	for _, c := range written() {
		putsInv(t, "as written", c.i, []byte(unhex(t, c.octets)), api.OK)
		putsVar(t, c.v, []byte(unhex(t, c.amount+hex.EncodeToString(numOf(c.v.Expiry)))), api.OK)
		if key := Key(c.i); key != unhex(t, c.key) {
			t.Errorf("Key(%v) = %x, want %s", c.i, key, c.key)
		}
		if digest := Digest(c.i, c.v); digest != unhex(t, c.digest) {
			t.Errorf("Digest(%v, %v) = %x, want %s", c.i, c.v, digest, c.digest)
		}
		if b := Payload(1, Key(c.i), c.v.Amount); string(b) != unhex(t, c.fulfil+c.amount) {
			t.Errorf("Payload to fulfil = %x, want %s", b, c.fulfil+c.amount)
		}
		if b := Payload(2, Key(c.i), c.v.Amount); string(b) != unhex(t, c.cancel+c.amount) {
			t.Errorf("Payload to cancel = %x, want %s", b, c.cancel+c.amount)
		}
	}
}

// P7.1, Check: OK of all transfers that may be.
func TestCheck(t *testing.T) {
	for _, i := range transfers() {
		if err := Check(i); err != api.OK {
			t.Fatalf("Check(%v) = %d", i, err)
		}
	}
}

// P7.1, Check: ErrRoute of those that may not be, for one reason or for several.
func TestCheckOfWrong(t *testing.T) {
	for _, i := range []api.Inv{sample(), transfers()[0]} {
		for what, wrong := range wrongs(i) {
			if err := Check(wrong); err != api.ErrRoute {
				t.Errorf("Check with %s = %d", what, err)
			}
			wrong.Id, wrong.User = "", 7
			if err := Check(wrong); err != api.ErrRoute {
				t.Errorf("Check with %s and more = %d", what, err)
			}
		}
	}
	if err := Check(api.Inv{}); err != api.ErrRoute {
		t.Errorf("Check of nothing = %d", err)
	}
	all := api.Inv{User: -1, Root: row(9), Router: -1, Send: -1, Recv: -1, To: -1, Id: row(17)}
	if err := Check(all); err != api.ErrRoute {
		t.Errorf("Check of what is all wrong = %d", err)
	}
}

// P7.1, Check: Root and Id are counted in octets, not in letters.
func TestCheckCountsOctets(t *testing.T) {
	i := sample()
	i.Root, i.Id = "ääää", "äöüäöüäö"
	if err := Check(i); err != api.OK {
		t.Errorf("8 and 16 octets of fewer letters: %d", err)
	}
	i.Root = "ääääaaaa"
	if err := Check(i); err != api.ErrRoute {
		t.Errorf("a Root of 8 letters of 12 octets: %d", err)
	}
	i.Root, i.Id = "rootroot", strings.Repeat("ä", 9)
	if err := Check(i); err != api.ErrRoute {
		t.Errorf("an Id of 9 letters of 18 octets: %d", err)
	}
}

// P7.1, Sound: OK of what may be, ErrAmount else.
func TestSound(t *testing.T) {
	for _, v := range vars() {
		if err := Sound(v); err != api.OK {
			t.Errorf("Sound(%v) = %d", v, err)
		}
	}
	for _, v := range wrongVars() {
		if err := Sound(v); err != api.ErrAmount {
			t.Errorf("Sound(%v) = %d", v, err)
		}
	}
}

// P7.1, Put: the fields of all that may be.
func TestPut(t *testing.T) {
	for _, i := range transfers() {
		putsInv(t, "", i, invOf("inv", i), api.OK)
	}
}

// P7.1, Put: also of what may not be its fields, as they are; or field's error, of the first that can't be one.
func TestPutOfWrong(t *testing.T) {
	fits := func(n int) bool { return n >= 0 && n <= 1<<40 }
	for what, i := range wrongs(sample()) {
		switch {
		case len(i.Root) > 1024 || len(i.Id) > 1024:
			putsInv(t, what, i, nil, api.ErrLong)
		case !fits(i.User) || !fits(i.Router) || !fits(i.Send) || !fits(i.Recv) || !fits(i.To):
			putsInv(t, what, i, nil, api.ErrRange)
		default:
			putsInv(t, what, i, invOf("inv", i), api.OK)
		}
	}
	putsInv(t, "nothing", api.Inv{}, invOf("inv", api.Inv{}), api.OK)
	putsInv(t, "User ahead of Root", api.Inv{User: -1, Root: row(1025)}, nil, api.ErrRange)
	putsInv(t, "Root ahead of Router", api.Inv{Root: row(1025), Router: -1}, nil, api.ErrLong)
	putsInv(t, "To ahead of Id", api.Inv{To: -1, Id: row(1025)}, nil, api.ErrRange)
}

// P7.1, PutVar: Amount and Expiry, also of what may not be; or field's error.
func TestPutVar(t *testing.T) {
	for _, v := range vars() {
		putsVar(t, v, varOf(v), api.OK)
	}
	for _, v := range wrongVars() {
		if v.Expiry < 0 || v.Expiry > 1<<40 {
			putsVar(t, v, nil, api.ErrRange)
		} else {
			putsVar(t, v, varOf(v), api.OK)
		}
	}
}

// P7.1, Put and PutVar: behind what an Out took; nothing, where it has no room or an error.
func TestPutBehindOthers(t *testing.T) {
	i, v := sample(), sampleVar()
	b, err := put(func(w *field.Out) {
		w.Num(9)
		Put(w, i)
		PutVar(w, v)
		Put(w, i)
		w.Text("end")
	})
	want := slices.Concat(numOf(9), invOf("inv", i), varOf(v), invOf("inv", i), textOf("end"))
	if err != api.OK || !bytes.Equal(b, want) {
		t.Errorf("behind others: %x, %d; want %x", b, err, want)
	}
	b, err = put(func(w *field.Out) {
		w.Num(-1)
		Put(w, i)
		PutVar(w, v)
	})
	if err != api.ErrRange || len(b) != 0 {
		t.Errorf("behind an error: %x, %d", b, err)
	}
}

// P7.1, Put and PutVar: all of it goes in where there is just room for it, and nothing with one octet less.
func TestPutWhereThereIsLittleRoom(t *testing.T) {
	full := func(room int, tell func(*field.Out)) ([]byte, api.Errno) {
		return put(func(w *field.Out) {
			for range 7 {
				w.Text(row(1024))
			}
			w.Text(row(8192 - 7*1026 - 2 - room))
			tell(w)
		})
	}
	i, v := sample(), sampleVar()
	tells := map[string]func(*field.Out){
		string(invOf("inv", i)): func(w *field.Out) { Put(w, i) },
		string(varOf(v)):        func(w *field.Out) { PutVar(w, v) },
	}
	for want, tell := range tells {
		if b, err := full(len(want), tell); err != api.OK || len(b) != 8192 || !strings.HasSuffix(string(b), want) {
			t.Errorf("%x with just room: %d octets, %d", want, len(b), err)
		}
		if b, err := full(len(want)-1, tell); err != api.ErrLong || len(b) != 0 {
			t.Errorf("%x with too little room: %d octets, %d", want, len(b), err)
		}
	}
}

// P7.1, Get: all that may be is read, and what is behind stays.
func TestGet(t *testing.T) {
	for _, i := range transfers() {
		getsInv(t, "", invOf("inv", i), i, api.OK, 0)
		getsInv(t, "with more behind", append(invOf("inv", i), 1, 2, 3), i, api.OK, 3)
	}
}

// P7.1, Get: a Root, an Id or a first text that is too long is ErrRange, whatever else is wrong.
func TestGetTooLong(t *testing.T) {
	for _, n := range []int{9, 10, 15, 16, 17, 256, 264, 1024, 1025, 2048} {
		i := sample()
		i.Root = row(n)
		getsInv(t, "with a long Root", append(invOf("inv", i), 1, 2, 3), api.Inv{}, api.ErrRange, 0)
		i.User, i.To, i.Id = 9, 9, ""
		getsInv(t, "with a long Root and more", invOf("no", i), api.Inv{}, api.ErrRange, 0)
	}
	for _, n := range []int{17, 18, 32, 256, 257, 272, 1024, 1025, 2048} {
		i := sample()
		i.Id = row(n)
		getsInv(t, "with a long Id", append(invOf("inv", i), 1, 2, 3), api.Inv{}, api.ErrRange, 0)
		i.User, i.Root, i.To = 9, "", 9
		getsInv(t, "with a long Id and more", invOf("no", i), api.Inv{}, api.ErrRange, 0)
		for _, word := range []string{row(n), ("inv" + row(n))[:n], strings.Repeat("\x00", n)} {
			getsInv(t, "with a long first text", invOf(word, sample()), api.Inv{}, api.ErrRange, 0)
			getsInv(t, "with a long first text and more", invOf(word, i), api.Inv{}, api.ErrRange, 0)
		}
	}
}

// P7.1, Get: what may not be else is ErrSyntax; a number that is none of field's is field's ErrRange.
func TestGetOfWrong(t *testing.T) {
	for what, i := range wrongs(sample()) {
		b, err := put(func(w *field.Out) { Put(w, i) })
		if err != api.OK || len(i.Root) > 8 || len(i.Id) > 16 {
			continue
		}
		getsInv(t, "with "+what, append(b, 1, 2, 3), api.Inv{}, api.ErrSyntax, 0)
	}
	getsInv(t, "of nothing's fields", invOf("inv", api.Inv{}), api.Inv{}, api.ErrSyntax, 0)
	for place := range 5 {
		for _, n := range []int{1<<40 + 1, 1<<40 + 2, 1 << 41, 1<<48 - 1} {
			i := sample()
			for p, set := range []*int{&i.User, &i.Router, &i.Send, &i.Recv, &i.To} {
				if p == place {
					*set = n
				}
			}
			getsInv(t, "with a number above MaxNum", invOf("inv", i), api.Inv{}, api.ErrRange, 0)
		}
	}
}

// P7.1, Get: another first text is ErrSyntax, also one that is nearly it.
func TestGetOfAnotherWord(t *testing.T) {
	for _, word := range []string{"", "i", "in", "inw", "inv ", "invv", " inv", "Inv", "INV", "inv\x00", "\x00inv", "vni", "act", "bid", "inu", row(16)} {
		getsInv(t, "of "+word, append(invOf(word, sample()), 1, 2, 3), api.Inv{}, api.ErrSyntax, 0)
	}
}

// P7.1, Get and GetVar: with fewer octets than it needs each is ErrSyntax, and nothing of it is told.
func TestGetOfTooFew(t *testing.T) {
	for _, i := range []api.Inv{sample(), transfers()[0], transfers()[len(transfers())-1]} {
		b := invOf("inv", i)
		for n := range b {
			getsInv(t, "of too few octets", b[:n], api.Inv{}, api.ErrSyntax, 0)
		}
	}
	for _, v := range vars() {
		b := varOf(v)
		for n := range b {
			getsVar(t, "of too few octets", b[:n], api.Var{}, api.ErrSyntax, 0)
		}
	}
}

// P7.1, GetVar: all that may be is read, and what is behind stays; an Amount of 0 is ErrSyntax, an Expiry above MaxNum is field's ErrRange.
func TestGetVar(t *testing.T) {
	for _, v := range vars() {
		getsVar(t, "", varOf(v), v, api.OK, 0)
		getsVar(t, "with more behind", append(varOf(v), 1, 2, 3), v, api.OK, 3)
		v.Amount = api.Wide{}
		getsVar(t, "without an Amount", append(varOf(v), 1, 2, 3), api.Var{}, api.ErrSyntax, 0)
	}
	for _, n := range []int{1<<40 + 1, 1<<40 + 2, 1 << 41, 1<<48 - 1} {
		for _, a := range []api.Wide{{}, {1}} {
			getsVar(t, "with an Expiry above MaxNum", varOf(api.Var{Amount: a, Expiry: n}), api.Var{}, api.ErrRange, 0)
		}
	}
}

// P7.1, Get and GetVar: behind an error nothing is read, though octets for it are there, and the error stays.
func TestGetBehindAnError(t *testing.T) {
	all := slices.Concat(numOf(2), invOf("inv", sample()), varOf(sampleVar()))
	r := field.Open(all)
	r.Num(1)
	if i, v := Get(r), GetVar(r); i != (api.Inv{}) || v != (api.Var{}) {
		t.Errorf("behind ErrRange: %v, %v", i, v)
	}
	read(t, "behind ErrRange", r, api.ErrRange, 0)
	r = field.Open(all)
	r.Num(2)
	r.Spoil()
	if v, i := GetVar(r), Get(r); i != (api.Inv{}) || v != (api.Var{}) {
		t.Errorf("behind a Spoil: %v, %v", i, v)
	}
	read(t, "behind a Spoil", r, api.ErrSyntax, 0)
	r = field.Open(make([]byte, 8193))
	if i, v := Get(r), GetVar(r); i != (api.Inv{}) || v != (api.Var{}) {
		t.Errorf("of too many octets: %v, %v", i, v)
	}
	read(t, "of too many octets", r, api.ErrLong, 0)
}

// P7.1, and P1 of DOC.md: of any octets, and of octets that are nearly a transfer's, Get and GetVar answer as the second writing does.
func TestGetOfAnyOctets(t *testing.T) {
	r := rand.New(rand.NewSource(7))
	check := func(b []byte) {
		t.Helper()
		i, err, left := invFrom(b)
		getsInv(t, "as the second writing", b, i, err, left)
		v, err, left := varFrom(b)
		getsVar(t, "as the second writing", b, v, err, left)
	}
	for _, b := range [][]byte{invOf("inv", sample()), invOf("inv", transfers()[0]), varOf(sampleVar()), varOf(api.Var{Amount: api.Wide{1}})} {
		for place := range b {
			for x := range 256 {
				other := slices.Clone(b)
				other[place] = byte(x)
				check(other)
			}
			check(slices.Delete(slices.Clone(b), place, place+1))
			check(slices.Insert(slices.Clone(b), place, 0))
		}
	}
	for range 5000 {
		b := make([]byte, r.Intn(120))
		for i := range b {
			if r.Intn(3) == 0 {
				b[i] = byte(r.Intn(256) >> r.Intn(8))
			}
		}
		check(b)
		for i := range b {
			b[i] = byte(r.Intn(256))
		}
		check(b)
	}
}

// P7.1, Key: the sum of the octets of all that may be; each has another one.
func TestKey(t *testing.T) {
	seen := map[string]bool{}
	for _, i := range transfers() {
		key := Key(i)
		if key != sumOf(invOf("inv", i)) || len(key) != 32 {
			t.Fatalf("Key(%v) = %x", i, key)
		}
		seen[key] = true
	}
	if len(seen) != len(transfers()) {
		t.Errorf("%d keys of %d transfers", len(seen), len(transfers()))
	}
}

// P7.1, Key: nothing of a transfer that may not be; the chapter's example among them.
func TestKeyOfWrong(t *testing.T) {
	for what, i := range wrongs(sample()) {
		if key := Key(i); key != "" {
			t.Errorf("Key with %s = %x", what, key)
		}
	}
	if key := Key(api.Inv{}); key != "" {
		t.Errorf("Key of nothing = %x", key)
	}
}

// P7.1, Digest: the sum of the octets of the key, Amount and Expiry; each has another one.
func TestDigest(t *testing.T) {
	seen, many := map[string]bool{}, 0
	for n, i := range transfers() {
		for _, v := range vars() {
			if n%50 != 0 && v != sampleVar() {
				continue
			}
			digest := Digest(i, v)
			if digest != sumOf(textOf(sumOf(invOf("inv", i))), varOf(v)) || len(digest) != 32 {
				t.Fatalf("Digest(%v, %v) = %x", i, v, digest)
			}
			seen[digest] = true
			many++
		}
	}
	if len(seen) != many {
		t.Errorf("%d digests of %d", len(seen), many)
	}
}

// P7.1, Digest: nothing, unless both may be.
func TestDigestOfWrong(t *testing.T) {
	for what, i := range wrongs(sample()) {
		if digest := Digest(i, sampleVar()); digest != "" {
			t.Errorf("Digest with %s = %x", what, digest)
		}
		if digest := Digest(i, api.Var{}); digest != "" {
			t.Errorf("Digest with %s and no data = %x", what, digest)
		}
	}
	for _, v := range wrongVars() {
		if digest := Digest(sample(), v); digest != "" {
			t.Errorf("Digest with %v = %x", v, digest)
		}
	}
}

// P7.1, Payload: the text, the act, the key and the fee, whatever octets the key has and whatever the fee is.
func TestPayload(t *testing.T) {
	m := uint64(math.MaxUint64)
	for _, key := range []string{Key(sample()), row(32), strings.Repeat("\x00", 32), strings.Repeat("\xff", 32), strings.Repeat("ä", 16)} {
		for _, fee := range []api.Wide{{}, {1}, {0, 1}, {0, 0, 1}, {0, 0, 0, 1}, {m, m, m, m}, sampleVar().Amount} {
			for act := 1; act <= 2; act++ {
				if b := Payload(act, key, fee); !bytes.Equal(b, payloadOf(act, key, fee)) || len(b) != 77 {
					t.Errorf("Payload(%d, %x, %x) = %x", act, key, fee, b)
				}
			}
		}
	}
}

// P7.1, Payload: nothing of another act, nor of a key of another length.
func TestPayloadOfWrong(t *testing.T) {
	key := Key(sample())
	for _, act := range append(noNumbers(), 0, 3, 4, 5, 7) {
		if b := Payload(act, key, api.Wide{1}); len(b) != 0 {
			t.Errorf("Payload to %d = %x", act, b)
		}
		if b := Payload(act, "", api.Wide{}); len(b) != 0 {
			t.Errorf("Payload to %d of no key = %x", act, b)
		}
	}
	for _, n := range []int{0, 1, 8, 16, 30, 31, 33, 34, 64, 288, 1024, 1025, 65568} {
		for act := 1; act <= 2; act++ {
			if b := Payload(act, row(n), api.Wide{1}); len(b) != 0 {
				t.Errorf("Payload of a key of %d octets = %x", n, b)
			}
		}
	}
	if b := Payload(1, strings.Repeat("ä", 32), api.Wide{1}); len(b) != 0 {
		t.Errorf("Payload of a key of 32 letters of 64 octets = %x", b)
	}
}

// P7.2: transfers come back, with their data, one behind the other.
func TestTransfersComeBack(t *testing.T) {
	l, data := transfers(), vars()
	for from := 0; from+8 <= len(l); from += 8 {
		some := l[from : from+8]
		b, err := put(func(w *field.Out) {
			for n, i := range some {
				Put(w, i)
				PutVar(w, data[(from+n)%len(data)])
			}
		})
		if err != api.OK {
			t.Fatalf("Put: %d", err)
		}
		r := field.Open(b)
		for n, want := range some {
			i, v := Get(r), GetVar(r)
			if i != want || v != data[(from+n)%len(data)] {
				t.Fatalf("%v came back as %v, with %v", want, i, v)
			}
		}
		read(t, "all came back", r, api.OK, 0)
	}
}

// P1 of DOC.md: of objects that nobody made nothing is read, and they take nothing.
func TestOfWhatNobodyMade(t *testing.T) {
	for what, w := range map[string]*field.Out{"nil": nil, "zero": {}} {
		Put(w, sample())
		PutVar(w, sampleVar())
		Put(w, api.Inv{User: -1})
		if b, err := w.Done(); err != api.ErrState || len(b) != 0 {
			t.Errorf("%s: %x, %d", what, b, err)
		}
	}
	for what, r := range map[string]*field.In{"nil": nil, "zero": {}} {
		if i, v := Get(r), GetVar(r); i != (api.Inv{}) || v != (api.Var{}) {
			t.Errorf("%s: %v, %v", what, i, v)
		}
		read(t, what, r, api.ErrState, 0)
	}
}

// P7.3, P2 of DOC.md: an answer of Payload shares nothing with another one, up to its capacity.
func TestPayloadIsNewMemory(t *testing.T) {
	key, fee := Key(sample()), api.Wide{7}
	first := Payload(1, key, fee)
	second := Payload(1, key, fee)
	for i := range second[:cap(second)] {
		second[:cap(second)][i] ^= 0xff
	}
	if third := Payload(1, key, fee); !bytes.Equal(first, payloadOf(1, key, fee)) || !bytes.Equal(third, first) {
		t.Errorf("behind a spoilt answer: %x, %x", first, third)
	}
	if key != Key(sample()) {
		t.Error("the key changed with an answer")
	}
}

// P7.3, P2 of DOC.md: what is read changes no octets that were handed in, and does not change with them.
func TestReadIsNewMemory(t *testing.T) {
	all := append(invOf("inv", sample()), varOf(sampleVar())...)
	b := slices.Clone(all)
	r := field.Open(b)
	i, v := Get(r), GetVar(r)
	if !bytes.Equal(b, all) {
		t.Errorf("%x became %x", all, b)
	}
	for n := range b {
		b[n] ^= 0xff
	}
	if i != sample() || v != sampleVar() {
		t.Errorf("what was read changed: %v, %v", i, v)
	}
}

// P3 of DOC.md: the same again answers the same, also side by side.
func TestSideBySide(t *testing.T) {
	all := func() string {
		var out strings.Builder
		for n, i := range transfers() {
			if n%20 != 0 {
				continue
			}
			r := field.Open(invOf("inv", i))
			out.WriteString(strconv.Itoa(int(Check(i))) + Key(i) + Digest(i, sampleVar()) + string(Payload(1+n%2, Key(i), sampleVar().Amount)) + Get(r).Id)
		}
		return out.String()
	}
	want := all()
	same := make(chan bool)
	for range 4 {
		go func() { same <- all() == want }()
	}
	for range 4 {
		if !<-same {
			t.Error("answers differ when calls run side by side")
		}
	}
}
