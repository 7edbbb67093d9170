package wire

import (
	"bytes"
	"encoding/binary"
	"math"
	"math/rand"
	"testing"

	"barbican/api"
)

// numbers are those at which a byte, a sign or a length turns over.
func numbers() []int {
	return []int{
		0, 1, 2, 7, 8, 127, 128, 255, 256, 257, 258, 65535, 65536,
		1<<31 - 1, 1 << 31, 1<<32 - 1, 1 << 32, 1<<56 + 3, 1 << 62,
		math.MaxInt64, math.MinInt64, math.MinInt64 + 1,
		-1, -2, -255, -256, -1 << 31, -1 << 40, 0x0102030405060708,
	}
}

// texts are bytes of several lengths.
func texts() [][]byte {
	return [][]byte{nil, {}, {0}, {7}, {255, 0, 1}, []byte("abcdefgh"), bytes.Repeat([]byte{9}, 255), bytes.Repeat([]byte("xy"), 128), make([]byte, 70000)}
}

// entries are ones whose fields stand at their edges.
func entries() []api.Entry {
	l := []api.Entry{
		{},
		{Term: 1, Kind: 4, Version: 2, Server: 3, Good: true, Data: []byte("x")},
		{Kind: 255},
		{Good: true},
		{Data: bytes.Repeat([]byte{1}, 300)},
	}
	for _, n := range numbers() {
		l = append(l,
			api.Entry{Term: n, Kind: api.EntryRegister, Data: []byte{1, 2}},
			api.Entry{Version: n, Kind: api.EntryKind(n), Good: true},
			api.Entry{Server: n})
	}
	return l
}

// plainNumber is a number's bytes, by the library.
func plainNumber(n int) []byte {
	return binary.BigEndian.AppendUint64(nil, uint64(n))
}

// plainBytes is the bytes of b with their length ahead, by the library.
func plainBytes(b []byte) []byte {
	return append(plainNumber(len(b)), b...)
}

// plainEntry is the bytes of e, by the library.
func plainEntry(e api.Entry) []byte {
	good := 0
	if e.Good {
		good = 1
	}
	return plainFields(plainBytes(e.Data), e.Term, int(e.Kind), e.Version, e.Server, good)
}

// plainFields is so many numbers, and the data's bytes behind them.
func plainFields(data []byte, fields ...int) []byte {
	var b []byte
	for _, n := range fields {
		b = append(b, plainNumber(n)...)
	}
	return append(b, data...)
}

func sameEntry(a, b api.Entry) bool {
	data := bytes.Equal(a.Data, b.Data)
	return data && a.Term == b.Term && a.Kind == b.Kind && a.Version == b.Version && a.Server == b.Server && a.Good == b.Good
}

// isBad fails, unless r is bad, stays so, and tells zero values.
func isBad(t *testing.T, r *Reader) {
	t.Helper()
	for range 2 {
		if !r.Bad() || r.Done() {
			t.Errorf("Bad %v, Done %v, where it is bad", r.Bad(), r.Done())
		}
		if n, b, e := r.Number(), r.Bytes(), r.Entry(); n != 0 || len(b) != 0 || !sameEntry(e, api.Entry{}) {
			t.Errorf("a bad one tells %d, %x, %v", n, b, e)
		}
	}
}

// isAt fails, unless r is good, and done only as told.
func isAt(t *testing.T, r *Reader, done bool) {
	t.Helper()
	if r.Bad() || r.Done() != done {
		t.Errorf("Bad %v, Done %v, not false, %v", r.Bad(), r.Done(), done)
	}
}

// P2.1, by hand: the document's examples, the edges.
func TestNumberByHand(t *testing.T) {
	for _, c := range []struct {
		n   int
		out string
	}{
		{0, "\x00\x00\x00\x00\x00\x00\x00\x00"},
		{1, "\x00\x00\x00\x00\x00\x00\x00\x01"},
		{258, "\x00\x00\x00\x00\x00\x00\x01\x02"},
		{-1, "\xff\xff\xff\xff\xff\xff\xff\xff"},
		{-2, "\xff\xff\xff\xff\xff\xff\xff\xfe"},
		{0x0102030405060708, "\x01\x02\x03\x04\x05\x06\x07\x08"},
		{math.MaxInt64, "\x7f\xff\xff\xff\xff\xff\xff\xff"},
		{math.MinInt64, "\x80\x00\x00\x00\x00\x00\x00\x00"},
	} {
		if b := Number(c.n); string(b) != c.out {
			t.Errorf("Number(%d) = %x, not %x", c.n, b, c.out)
		}
	}
}

// P2.1: numbers, bytes and entries, against the library.
func TestWrittenAgainstPlain(t *testing.T) {
	for _, n := range numbers() {
		if b := Number(n); !bytes.Equal(b, plainNumber(n)) {
			t.Errorf("Number(%d) = %x", n, b)
		}
	}
	for _, x := range texts() {
		if b := Bytes(x); !bytes.Equal(b, plainBytes(x)) {
			t.Errorf("Bytes of %d: %d bytes, from %x", len(x), len(b), b[:8])
		}
	}
	for _, e := range entries() {
		if b := Entry(e); !bytes.Equal(b, plainEntry(e)) {
			t.Errorf("Entry(%v) = %x", e, b)
		}
	}
}

// P2.1: bytes and an entry by hand.
func TestBytesAndEntryByHand(t *testing.T) {
	if b := Bytes([]byte{7}); string(b) != "\x00\x00\x00\x00\x00\x00\x00\x01\x07" {
		t.Errorf("Bytes of 7: %x", b)
	}
	if b := Bytes(nil); string(b) != "\x00\x00\x00\x00\x00\x00\x00\x00" {
		t.Errorf("Bytes of none: %x", b)
	}
	const out = "\x00\x00\x00\x00\x00\x00\x00\x05" +
		"\x00\x00\x00\x00\x00\x00\x00\x04" +
		"\x00\x00\x00\x00\x00\x00\x00\x06" +
		"\x00\x00\x00\x00\x00\x00\x00\x07" +
		"\x00\x00\x00\x00\x00\x00\x00\x01" +
		"\x00\x00\x00\x00\x00\x00\x00\x02ab"
	e := api.Entry{Term: 5, Kind: api.EntryAck, Version: 6, Server: 7, Good: true, Data: []byte("ab")}
	if b := Entry(e); string(b) != out {
		t.Errorf("Entry(%v) = %x", e, b)
	}
}

// P2.1: parts are joined in their order, whatever they are.
func TestJoin(t *testing.T) {
	for _, c := range []struct {
		parts []string
		out   string
	}{
		{nil, ""},
		{[]string{""}, ""},
		{[]string{"", ""}, ""},
		{[]string{"a"}, "a"},
		{[]string{"a", "", "bc"}, "abc"},
		{[]string{"", "bc", "a", ""}, "bca"},
		{[]string{"x", "x", "x"}, "xxx"},
	} {
		var parts [][]byte
		for _, p := range c.parts {
			parts = append(parts, []byte(p))
		}
		if b := Join(parts...); string(b) != c.out {
			t.Errorf("Join(%q) = %q", c.parts, b)
		}
	}
	if b := Join(nil, []byte("q"), nil); string(b) != "q" {
		t.Errorf("Join(nil, q, nil) = %q", b)
	}
}

// P2.1, and that no argument is changed or kept.
func TestWrittenIsNew(t *testing.T) {
	whole := []byte("abcdef")
	part := whole[:2]
	for _, b := range [][]byte{Join(part), Join(part, []byte("zz")), Join(nil, part), Bytes(part), Entry(api.Entry{Data: part})} {
		was := bytes.Clone(b)
		for i := range part {
			part[i] ^= 255
		}
		if !bytes.Equal(b, was) {
			t.Errorf("%x became %x", was, b)
		}
		for i := range part {
			part[i] ^= 255
		}
		clear(b)
		if string(whole) != "abcdef" {
			t.Fatalf("an argument became %q", whole)
		}
	}
}

// P2.2: numbers are read one behind the other.
func TestReadNumbers(t *testing.T) {
	var b []byte
	for _, n := range numbers() {
		b = append(b, plainNumber(n)...)
	}
	r := NewReader(b)
	for _, n := range numbers() {
		isAt(t, r, false)
		if m := r.Number(); m != n {
			t.Errorf("%d was read as %d", n, m)
		}
	}
	isAt(t, r, true)
	if n := r.Number(); n != 0 {
		t.Errorf("behind the last: %d", n)
	}
	isBad(t, r)
}

// P2.2: fewer bytes than a number has, the document's example among them.
func TestReadNumberCut(t *testing.T) {
	for n := range 8 {
		b := bytes.Repeat([]byte{1}, n)
		r := NewReader(b)
		isAt(t, r, n == 0)
		if m := r.Number(); m != 0 {
			t.Errorf("of %d bytes: %d", n, m)
		}
		isBad(t, r)
	}
}

// P2.2: bytes are read one behind the other.
func TestReadBytes(t *testing.T) {
	var b []byte
	for _, x := range texts() {
		b = append(b, plainBytes(x)...)
	}
	r := NewReader(b)
	for _, x := range texts() {
		isAt(t, r, false)
		if y := r.Bytes(); !bytes.Equal(x, y) {
			t.Errorf("%d bytes were read as %d", len(x), len(y))
		}
	}
	isAt(t, r, true)
	if x := r.Bytes(); len(x) != 0 {
		t.Errorf("behind the last: %x", x)
	}
	isBad(t, r)
}

// P2.2: a length that is cut, below 0, or more than is left.
func TestReadBytesWrong(t *testing.T) {
	for _, c := range [][]byte{
		nil,
		make([]byte, 7),
		plainNumber(1),
		append(plainNumber(2), 9),
		append(plainNumber(9), make([]byte, 8)...),
		append(plainNumber(-1), 9, 9),
		append(plainNumber(-8), make([]byte, 100)...),
		append(plainNumber(math.MinInt64), 9),
		append(plainNumber(math.MaxInt64), make([]byte, 20)...),
		append(plainNumber(1<<62), 9),
		append(plainNumber(1<<32+1), 9),
	} {
		r := NewReader(c)
		if b := r.Bytes(); len(b) != 0 {
			t.Errorf("of %x: %x", c, b)
		}
		isBad(t, r)
	}
	for _, n := range []int{0, 1, 2} {
		r := NewReader(append(plainNumber(n), 5, 6))
		if b := r.Bytes(); !bytes.Equal(b, []byte{5, 6}[:n]) {
			t.Errorf("%d of two: %x", n, b)
		}
		isAt(t, r, n == 2)
	}
}

// P2.2: entries are read one behind the other.
func TestReadEntries(t *testing.T) {
	var b []byte
	for _, e := range entries() {
		b = append(b, plainEntry(e)...)
	}
	r := NewReader(b)
	for _, e := range entries() {
		isAt(t, r, false)
		if f := r.Entry(); !sameEntry(e, f) {
			t.Errorf("%v was read as %v", e, f)
		}
	}
	isAt(t, r, true)
	if e := r.Entry(); !sameEntry(e, api.Entry{}) {
		t.Errorf("behind the last: %v", e)
	}
	isBad(t, r)
}

// P2.2: each Kind from 0 to 255 is read, and no other.
func TestReadEntryKind(t *testing.T) {
	for k := range 256 {
		r := NewReader(plainFields(plainBytes(nil), 1, k, 2, 3, 0))
		if e := r.Entry(); !sameEntry(e, api.Entry{Term: 1, Kind: api.EntryKind(k), Version: 2, Server: 3}) {
			t.Errorf("Kind %d: %v", k, e)
		}
		isAt(t, r, true)
	}
	for _, k := range []int{-1, -256, 256, 257, 512, 1 << 32, 1<<32 + 1, 1 << 62, math.MinInt64} {
		r := NewReader(plainFields(plainBytes([]byte("x")), 1, k, 2, 3, 1))
		if e := r.Entry(); !sameEntry(e, api.Entry{}) {
			t.Errorf("Kind %d: %v", k, e)
		}
		isBad(t, r)
	}
}

// P2.2: a Good that is neither 0 nor 1, a Data that can't be read.
func TestReadEntryWrong(t *testing.T) {
	for _, good := range []int{-1, 2, 3, 255, 256, 257, 1 << 32, 1<<32 + 1, math.MinInt64, math.MinInt64 + 1} {
		r := NewReader(plainFields(plainBytes([]byte("x")), 1, 2, 3, 4, good))
		if e := r.Entry(); !sameEntry(e, api.Entry{}) {
			t.Errorf("Good %d: %v", good, e)
		}
		isBad(t, r)
	}
	for _, data := range [][]byte{
		nil,
		make([]byte, 7),
		plainNumber(1),
		append(plainNumber(-1), 1),
		append(plainNumber(3), 1, 2),
		append(plainNumber(math.MaxInt64), 1, 2),
	} {
		r := NewReader(plainFields(data, 1, 2, 3, 4, 1))
		if e := r.Entry(); !sameEntry(e, api.Entry{}) {
			t.Errorf("Data %x: %v", data, e)
		}
		isBad(t, r)
	}
}

// P2.2: a reader's bytes are its own, and what it tells is new memory.
func TestReaderSharesNothing(t *testing.T) {
	x, e := []byte("abc"), api.Entry{Kind: 1, Data: []byte("defg")}
	b := Join(Bytes(x), Entry(e), Bytes(x), Number(5))
	was := bytes.Clone(b)
	r, s := NewReader(b), NewReader(b)
	first := r.Bytes()
	clear(first[:cap(first)])
	second := r.Entry()
	if !sameEntry(second, e) {
		t.Errorf("the entry was read as %v", second)
	}
	clear(second.Data[:cap(second.Data)])
	if !bytes.Equal(b, was) {
		t.Errorf("what was read became %x", b)
	}
	clear(b)
	if y, n := r.Bytes(), r.Number(); !bytes.Equal(x, y) || n != 5 {
		t.Errorf("behind what was changed: %x, %d", y, n)
	}
	isAt(t, r, true)
	if y, f := s.Bytes(), s.Entry(); !bytes.Equal(x, y) || !sameEntry(f, e) {
		t.Errorf("another reader of the same: %x, %v", y, f)
	}
	isAt(t, s, false)
}

// P2.3: what can't be read makes it bad for good, whatever was asked for, and
// however much is left that could be read.
func TestBadStays(t *testing.T) {
	rest := Join(Number(0), Entry(api.Entry{Term: 1, Data: []byte("x")}), Number(0), Number(1))
	for i, c := range []struct {
		b   []byte
		ask func(*Reader)
	}{
		{Number(-1), func(r *Reader) { r.Bytes() }},
		{Number(1 << 40), func(r *Reader) { r.Bytes() }},
		{Join(Number(1), Number(256)), func(r *Reader) { r.Entry() }},
		{Join(Number(1), Number(1), Number(1), Number(1), Number(2)), func(r *Reader) { r.Entry() }},
		{Join(Number(1), Number(1), Number(1), Number(1), Number(1), Number(-1)), func(r *Reader) { r.Entry() }},
	} {
		r := NewReader(Join(c.b, rest))
		isAt(t, r, false)
		c.ask(r)
		if !r.Bad() {
			t.Errorf("%d is not bad", i)
		}
		isBad(t, r)
	}
}

// P2.3: Bad and Done of what is all right.
func TestBadAndDone(t *testing.T) {
	for _, b := range [][]byte{nil, {}} {
		isAt(t, NewReader(b), true)
	}
	r := NewReader(Join(Number(3), Bytes([]byte("ab"))))
	isAt(t, r, false)
	isAt(t, r, false)
	r.Number()
	isAt(t, r, false)
	r.Bytes()
	isAt(t, r, true)
	isAt(t, r, true)
}

// P2.3: no reader, and ones that nobody made.
func TestNobodyMade(t *testing.T) {
	var none *Reader
	isBad(t, none)
	isBad(t, new(Reader))
	var zero Reader
	isBad(t, &zero)
	r := NewReader(Number(4))
	copied := *r
	isBad(t, &copied)
	if n := r.Number(); n != 4 {
		t.Errorf("beside a bad copy: %d", n)
	}
	isAt(t, r, true)
}

// thing is one that was written: a number, bytes, or an entry.
type thing struct {
	what  int
	n     int
	b     []byte
	entry api.Entry
}

// drawThing is one of those at the edges.
func drawThing(r *rand.Rand) thing {
	ns, bs, es := numbers(), texts()[:8], entries()
	return thing{r.Intn(3), ns[r.Intn(len(ns))], bs[r.Intn(len(bs))], es[r.Intn(len(es))]}
}

func (x thing) written() []byte {
	return [][]byte{Number(x.n), Bytes(x.b), Entry(x.entry)}[x.what]
}

// read tells whether r tells just x next.
func (x thing) read(r *Reader) bool {
	switch x.what {
	case 0:
		return r.Number() == x.n
	case 1:
		return bytes.Equal(r.Bytes(), x.b)
	}
	return sameEntry(r.Entry(), x.entry)
}

// P2.4: what is written is read in that order; a beginning of it is not.
func TestReadBack(t *testing.T) {
	draw := rand.New(rand.NewSource(2))
	for range 60 {
		things := make([]thing, 1+draw.Intn(5))
		var parts [][]byte
		for i := range things {
			things[i] = drawThing(draw)
			parts = append(parts, things[i].written())
		}
		whole := Join(parts...)
		r := NewReader(whole)
		for _, x := range things {
			isAt(t, r, false)
			if !x.read(r) {
				t.Fatalf("%v was not read", x)
			}
		}
		isAt(t, r, true)
		for cut := range whole {
			readBeginning(t, NewReader(whole[:cut]), things, parts, cut)
		}
	}
}

// readBeginning fails, unless r, which has cut bytes of the things, tells those
// that are whole, and then is bad.
func readBeginning(t *testing.T, r *Reader, things []thing, parts [][]byte, cut int) {
	t.Helper()
	at := 0
	for i, x := range things {
		at += len(parts[i])
		told := x.read(r)
		if at <= cut && (!told || r.Bad()) {
			t.Fatalf("cut at %d: %v, which is whole, was not read", cut, x)
		}
		if at > cut && !r.Bad() {
			t.Fatalf("cut at %d: %v was read", cut, x)
		}
	}
	isBad(t, r)
}

// plainReader is P2.2 and P2.3 by places in the bytes.
type plainReader struct {
	b   []byte
	at  int
	bad bool
}

func (p *plainReader) number() int {
	if p.bad || len(p.b)-p.at < 8 {
		p.bad = true
		return 0
	}
	p.at += 8
	return int(binary.BigEndian.Uint64(p.b[p.at-8:]))
}

func (p *plainReader) counted() []byte {
	n := p.number()
	if p.bad || n < 0 || n > len(p.b)-p.at {
		p.bad = true
		return nil
	}
	p.at += n
	return p.b[p.at-n : p.at]
}

func (p *plainReader) entry() api.Entry {
	term, kind, version, server, good := p.number(), p.number(), p.number(), p.number(), p.number()
	data := p.counted()
	if p.bad || kind < 0 || kind > 255 || good < 0 || good > 1 {
		p.bad = true
		return api.Entry{}
	}
	return api.Entry{Term: term, Kind: api.EntryKind(kind), Version: version, Server: server, Good: good == 1, Data: data}
}

// drawBytes are bytes that now and then say something.
func drawBytes(r *rand.Rand) []byte {
	var b []byte
	for range r.Intn(12) {
		b = append(b, plainNumber(r.Intn(12)-2)...)
	}
	for range r.Intn(4) {
		if len(b) > 0 {
			b[r.Intn(len(b))] = byte(r.Intn(256))
		}
	}
	return append(b, make([]byte, r.Intn(9))...)
}

// P2.2, P2.3: any bytes, asked for anything, against the plain reader.
func TestAnyBytes(t *testing.T) {
	draw := rand.New(rand.NewSource(3))
	for range 20000 {
		b := drawBytes(draw)
		r, p := NewReader(b), &plainReader{b: b}
		for range 5 {
			same := true
			switch draw.Intn(3) {
			case 0:
				same = r.Number() == p.number()
			case 1:
				same = bytes.Equal(r.Bytes(), p.counted())
			case 2:
				same = sameEntry(r.Entry(), p.entry())
			}
			if !same || r.Bad() != p.bad || r.Done() != (!p.bad && p.at == len(b)) {
				t.Fatalf("of %x, read up to %d, bad %v: not so", b, p.at, p.bad)
			}
		}
	}
}
