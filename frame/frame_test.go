package frame

import (
	"bytes"
	"encoding/binary"
	"hash/crc32"
	"math"
	"math/rand"
	"slices"
	"testing"

	"barbican/api"
)

// plainSum is the sum by the library.
func plainSum(b []byte) uint32 {
	return crc32.Checksum(b, crc32.MakeTable(crc32.Castagnoli))
}

// plainPut is a frame's bytes by the library; length is what they say of Data.
func plainPut(kind byte, length uint32, data []byte) []byte {
	b := binary.BigEndian.AppendUint32([]byte{kind}, length)
	b = binary.BigEndian.AppendUint32(b, plainSum(slices.Concat(b, data)))
	return append(b, data...)
}

// plainOf is the bytes of frames that may be, by the library.
func plainOf(frames []Frame) []byte {
	var b []byte
	for _, f := range frames {
		b = append(b, plainPut(byte(f.Kind), uint32(len(f.Data)), f.Data)...)
	}
	return b
}

// plainScan is P3.2 by places in the bytes.
func plainScan(b []byte) (frames []Frame, used int, spoilt bool) {
	for used+9 <= len(b) {
		length := uint64(binary.BigEndian.Uint32(b[used+1:]))
		if length > 1<<18 {
			return frames, used, true
		}
		end := uint64(used) + 9 + length
		if end > uint64(len(b)) {
			return frames, used, false
		}
		data := b[used+9 : end]
		if plainSum(slices.Concat(b[used:used+5], data)) != binary.BigEndian.Uint32(b[used+5:]) {
			return frames, used, true
		}
		frames = append(frames, Frame{int(b[used]), data})
		used = int(end)
	}
	return frames, used, false
}

func sameFrames(a, b []Frame) bool {
	return slices.EqualFunc(a, b, func(x, y Frame) bool { return x.Kind == y.Kind && bytes.Equal(x.Data, y.Data) })
}

// must is what Put tells of frames that may be.
func must(t *testing.T, frames ...Frame) []byte {
	t.Helper()
	b, e := Put(frames...)
	if e != api.OK {
		t.Fatalf("Put of %d frames: error %d", len(frames), e)
	}
	return b
}

// scans fails, unless Scan tells just that.
func scans(t *testing.T, b []byte, frames []Frame, used int, spoilt bool) {
	t.Helper()
	was := bytes.Clone(b)
	l, u, s := Scan(b)
	if !sameFrames(l, frames) || u != used || s != spoilt {
		t.Fatalf("Scan of %d bytes: %d frames, %d, %v, not %d frames, %d, %v", len(b), len(l), u, s, len(frames), used, spoilt)
	}
	if !bytes.Equal(b, was) {
		t.Fatalf("Scan changed %d bytes", len(b))
	}
}

// drawn is so many drawn bytes.
func drawn(r *rand.Rand, n int) []byte {
	b := make([]byte, n)
	for i := range b {
		b[i] = byte(r.Intn(256))
	}
	return b
}

// drawFrames is a few frames of drawn kinds and Data.
func drawFrames(r *rand.Rand) []Frame {
	var l []Frame
	for range r.Intn(5) {
		l = append(l, Frame{r.Intn(256), drawn(r, r.Intn(2)*r.Intn(40))})
	}
	return l
}

// P3.1: sums that are known of CRC-32C, the document's example among them.
func TestSumByHand(t *testing.T) {
	rising, falling := make([]byte, 32), make([]byte, 32)
	for i := range rising {
		rising[i], falling[31-i] = byte(i), byte(i)
	}
	for _, c := range []struct {
		b   []byte
		out uint32
	}{
		{nil, 0},
		{[]byte{}, 0},
		{[]byte("123456789"), 0xE3069283},
		{[]byte("a"), 0xC1D04330},
		{make([]byte, 32), 0x8A9136AA},
		{bytes.Repeat([]byte{255}, 32), 0x62A8AB43},
		{rising, 0x46DD794E},
		{falling, 0x113FDB5C},
	} {
		if n := Sum(c.b); n != c.out {
			t.Errorf("Sum(%x) = %#x, not %#x", c.b, n, c.out)
		}
	}
}

// P3.1: sums of each byte, and of all lengths, against the library.
func TestSumAgainstPlain(t *testing.T) {
	for b := range 256 {
		if n := Sum([]byte{byte(b)}); n != plainSum([]byte{byte(b)}) {
			t.Errorf("Sum of the byte %d: %#x", b, n)
		}
	}
	r := rand.New(rand.NewSource(1))
	for n := range 300 {
		b := drawn(r, n)
		was := bytes.Clone(b)
		if got := Sum(b); got != plainSum(b) || !bytes.Equal(b, was) {
			t.Errorf("Sum of %x: %#x; then they are %x", was, got, b)
		}
	}
	b := drawn(r, 1<<20)
	if n := Sum(b); n != plainSum(b) {
		t.Errorf("Sum of 2^20 bytes: %#x", n)
	}
}

// P3.1, by hand: the document's example, and frames one behind the other.
func TestPutByHand(t *testing.T) {
	b := must(t, Frame{7, []byte("a")})
	if len(b) != 10 || string(b[:5]) != "\x07\x00\x00\x00\x01" || b[9] != 'a' {
		t.Fatalf("Put of {7, a}: %x", b)
	}
	if n := Sum([]byte("\x07\x00\x00\x00\x01a")); binary.BigEndian.Uint32(b[5:]) != n {
		t.Errorf("the sum in %x is not %x", b, n)
	}
	scans(t, b, []Frame{{7, []byte("a")}}, 10, false)
	scans(t, b[:9], nil, 0, false)
	b[9] = 'b'
	scans(t, b, nil, 0, true)
	for _, frames := range [][]Frame{nil, {}} {
		if b, e := Put(frames...); len(b) != 0 || e != api.OK {
			t.Errorf("Put of none: %x, %d", b, e)
		}
	}
	if b := must(t, Frame{}); len(b) != 9 || !bytes.Equal(b, plainPut(0, 0, nil)) {
		t.Errorf("Put of a zero frame: %x", b)
	}
}

// P3.1: kinds and lengths at their edges, and rows of frames, against the
// library.
func TestPutAgainstPlain(t *testing.T) {
	r := rand.New(rand.NewSource(2))
	for _, kind := range []int{0, 1, 127, 128, 254, 255} {
		for _, n := range []int{0, 1, 255, 256, 257, 65535, 65536, 1<<18 - 1, 1 << 18} {
			data := drawn(r, n)
			if b := must(t, Frame{kind, data}); !bytes.Equal(b, plainPut(byte(kind), uint32(n), data)) {
				t.Errorf("Put of {%d, %d bytes}: %d bytes", kind, n, len(b))
			}
		}
	}
	for range 300 {
		frames := drawFrames(r)
		if b := must(t, frames...); !bytes.Equal(b, plainOf(frames)) {
			t.Errorf("Put of %v: %x", frames, b)
		}
	}
}

// P3.1: the first error of the first frame that may not be, and nothing else.
func TestPutErrors(t *testing.T) {
	most, long := make([]byte, 1<<18), make([]byte, 1<<18+1)
	fine := Frame{3, []byte("abc")}
	for i, c := range []struct {
		frames []Frame
		e      api.Errno
	}{
		{[]Frame{{-1, nil}}, api.ErrArg},
		{[]Frame{{256, nil}}, api.ErrArg},
		{[]Frame{{257, nil}}, api.ErrArg},
		{[]Frame{{1 << 32, nil}}, api.ErrArg},
		{[]Frame{{math.MaxInt, nil}}, api.ErrArg},
		{[]Frame{{math.MinInt, nil}}, api.ErrArg},
		{[]Frame{{0, long}}, api.ErrLong},
		{[]Frame{{255, long}}, api.ErrLong},
		{[]Frame{{0, make([]byte, 1<<20)}}, api.ErrLong},
		{[]Frame{{0, most}, {255, most}}, api.OK},
		{[]Frame{{-1, long}}, api.ErrArg},
		{[]Frame{{256, long}}, api.ErrArg},
		{[]Frame{fine, {256, nil}}, api.ErrArg},
		{[]Frame{{256, nil}, fine}, api.ErrArg},
		{[]Frame{fine, {0, long}, fine}, api.ErrLong},
		{[]Frame{{0, long}, {-1, nil}}, api.ErrLong},
		{[]Frame{{-1, nil}, {0, long}}, api.ErrArg},
		{[]Frame{fine, {0, long}, {-1, long}}, api.ErrLong},
	} {
		b, e := Put(c.frames...)
		if e != c.e || e != api.OK && len(b) != 0 {
			t.Errorf("%d: %d bytes, error %d, not %d", i, len(b), e, c.e)
		}
	}
}

// P3.1, and that no argument is changed or kept.
func TestPutIsNew(t *testing.T) {
	whole := []byte("abcdef")
	frames := []Frame{{1, whole[:2]}, {2, whole[:0]}, {3, whole[1:3]}}
	b := must(t, frames...)
	was := bytes.Clone(b)
	clear(whole)
	if !bytes.Equal(b, was) {
		t.Errorf("%x became %x", was, b)
	}
	copy(whole, "abcdef")
	clear(b[:cap(b)])
	if string(whole) != "abcdef" || !sameFrames(frames, []Frame{{1, []byte("ab")}, {2, nil}, {3, []byte("bc")}}) {
		t.Errorf("an argument became %q, %v", whole, frames)
	}
}

// P3.2: of fewer than nine bytes nothing is told, whatever they are: they may
// be a beginning.
func TestScanFew(t *testing.T) {
	r := rand.New(rand.NewSource(3))
	scans(t, nil, nil, 0, false)
	scans(t, []byte{}, nil, 0, false)
	for n := range 9 {
		scans(t, make([]byte, n), nil, 0, false)
		scans(t, bytes.Repeat([]byte{255}, n), nil, 0, false)
		scans(t, drawn(r, n), nil, 0, false)
	}
	fine := []Frame{{9, []byte("xyz")}}
	b := must(t, fine...)
	for n := range 9 {
		scans(t, append(b[:12:12], bytes.Repeat([]byte{255}, n)...), fine, 12, false)
	}
}

// P3.2: lengths at their edges: what they say is asked for ahead of all else.
func TestScanLengths(t *testing.T) {
	fine := []Frame{{9, []byte("xyz")}}
	ahead := must(t, fine...)
	for _, c := range []struct {
		length uint32
		data   int
		whole  bool
		spoilt bool
	}{
		{0, 0, true, false},
		{1, 0, false, false},
		{1, 1, true, false},
		{2, 1, false, false},
		{1 << 18, 0, false, false},
		{1 << 18, 1<<18 - 1, false, false},
		{1 << 18, 1 << 18, true, false},
		{1<<18 + 1, 0, false, true},
		{1<<18 + 1, 1<<18 + 1, false, true},
		{1 << 19, 3, false, true},
		{1 << 24, 0, false, true},
		{1<<31 - 1, 0, false, true},
		{1 << 31, 0, false, true},
		{1<<32 - 1, 0, false, true},
		{1<<32 - 9, 9, false, true},
	} {
		data := bytes.Repeat([]byte{5}, c.data)
		b := plainPut(200, c.length, data)
		frames, used := fine, len(ahead)
		if c.whole {
			frames, used = append(fine[:1:1], Frame{200, data}), len(ahead)+len(b)
		}
		scans(t, slices.Concat(ahead, b), frames, used, c.spoilt)
		scans(t, b, frames[1:], used-len(ahead), c.spoilt)
	}
}

// P3.2: a sum that does not fit is told once all Data is there, not ahead of
// it, and ends the scan.
func TestScanSums(t *testing.T) {
	data := []byte("some data")
	for bit := range 32 {
		b := must(t, Frame{4, data})
		b[5+bit/8] ^= 1 << (bit % 8)
		for n := range b {
			scans(t, b[:n], nil, 0, false)
		}
		scans(t, b, nil, 0, true)
		scans(t, slices.Concat(b, must(t, Frame{5, data})), nil, 0, true)
		empty := must(t, Frame{4, nil})
		empty[5+bit/8] ^= 1 << (bit % 8)
		scans(t, empty[:8], nil, 0, false)
		scans(t, empty, nil, 0, true)
	}
	for bit := range 8 {
		b := must(t, Frame{4, data}, Frame{4, data})
		b[18] ^= 1 << bit
		scans(t, b, []Frame{{4, data}}, 18, true)
	}
}

// P3.2: bytes that were put, and then changed, doubled or cut, against the
// plain way.
func TestScanAgainstPlain(t *testing.T) {
	r := rand.New(rand.NewSource(4))
	for range 20000 {
		b := plainOf(drawFrames(r))
		for range r.Intn(3) {
			switch r.Intn(4) {
			case 0:
				b = append(b, drawn(r, r.Intn(20))...)
			case 1:
				b = b[:r.Intn(len(b)+1)]
			case 2:
				b = append(b, b[r.Intn(len(b)+1):]...)
			case 3:
				if len(b) > 0 {
					b[r.Intn(len(b))] = byte(r.Intn(256))
				}
			}
		}
		frames, used, spoilt := plainScan(b)
		scans(t, b, frames, used, spoilt)
	}
}

// P3.2, and that what is told is new memory, each Data its own.
func TestScanIsNew(t *testing.T) {
	frames := []Frame{{1, []byte("abc")}, {2, nil}, {3, []byte("de")}}
	b := must(t, frames...)
	was := bytes.Clone(b)
	l, _, _ := Scan(b)
	clear(b)
	if !sameFrames(l, frames) {
		t.Errorf("with the bytes gone: %v", l)
	}
	copy(b, was)
	for i, f := range l {
		clear(f.Data[:cap(f.Data)])
		if !sameFrames(l[i+1:], frames[i+1:]) {
			t.Errorf("with the Data of %d gone: %v", i, l)
		}
	}
	if !bytes.Equal(b, was) {
		t.Errorf("%x became %x", was, b)
	}
}

// P3.3: what is put is scanned, all of it; of a beginning, the frames that are
// whole.
func TestScanOfPut(t *testing.T) {
	r := rand.New(rand.NewSource(5))
	for range 200 {
		frames := drawFrames(r)
		b := must(t, frames...)
		scans(t, b, frames, len(b), false)
		told, end := 0, 0
		for cut := range b {
			if next := end + 9 + len(frames[told].Data); cut >= next {
				told, end = told+1, next
			}
			scans(t, b[:cut], frames[:told], end, false)
		}
	}
	long := []Frame{{0, drawn(r, 1<<18)}, {255, drawn(r, 1<<18)}}
	b := must(t, long...)
	scans(t, b, long, len(b), false)
	scans(t, b[:len(b)-1], long[:1], len(b)/2, false)
}

// turn turns the bits of pattern in b from the bit first on, in each byte from
// the lowest one on, as far as b goes; it tells whether one was turned.
func turn(b []byte, first int, pattern uint32) bool {
	turned := false
	for i := range 32 {
		at := first + i
		if pattern>>i&1 == 1 && at < 8*len(b) {
			b[at/8] ^= 1 << (at % 8)
			turned = true
		}
	}
	return turned
}

// P3.3: up to 32 bits of a frame's Data that were turned are seen, wherever
// they stand.
func TestTurnedBits(t *testing.T) {
	r := rand.New(rand.NewSource(6))
	frames := []Frame{{1, drawn(r, 7)}, {2, nil}, {3, drawn(r, 40)}, {4, drawn(r, 1)}, {5, drawn(r, 5)}}
	whole := must(t, frames...)
	at := 0
	for i, f := range frames {
		for first := range 8 * len(f.Data) {
			patterns := []uint32{1, 1<<32 - 1, 1<<31 | 1}
			for wide := range 32 {
				patterns = append(patterns, 1<<wide|1, 1<<wide|1|r.Uint32()&(1<<wide-1))
			}
			for _, p := range patterns {
				b := bytes.Clone(whole)
				if turn(b[at+9:at+9+len(f.Data)], first, p) {
					scans(t, b, frames[:i], at, true)
				}
			}
		}
		at += 9 + len(f.Data)
	}
}

// P3.3: so it is in the longest frame.
func TestTurnedBitsFarApart(t *testing.T) {
	r := rand.New(rand.NewSource(7))
	fine := Frame{6, []byte("ahead")}
	whole := must(t, fine, Frame{7, drawn(r, 1<<18)})
	at := fine.size() + 9
	for _, first := range []int{0, 1, 8 * 1000, 8<<18 - 32, 8<<18 - 1, r.Intn(8 << 18)} {
		b := bytes.Clone(whole)
		turn(b[at:], first, r.Uint32()|1)
		scans(t, b, []Frame{fine}, fine.size(), true)
	}
}
