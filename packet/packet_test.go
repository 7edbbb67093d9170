package packet

import (
	"bytes"
	"encoding/binary"
	"math"
	"math/big"
	"math/rand"
	"slices"
	"sync"
	"testing"

	"barbican/api"
)

// plainPlace is where a number of b begins and ends, reckoned with numbers of
// any length, or the error.
func plainPlace(b []byte, at int64, size int) (int, int, api.Errno) {
	if !slices.Contains([]int{1, 2, 4, 8}, size) {
		return 0, 0, api.ErrArg
	}
	end := new(big.Int).Add(big.NewInt(at), big.NewInt(int64(size)))
	if at < 0 || end.Cmp(big.NewInt(int64(len(b)))) > 0 {
		return 0, 0, api.ErrBounds
	}
	return int(at), int(end.Int64()), api.OK
}

// plainGet is P9.1 by the library.
func plainGet(b []byte, at int64, size int) (uint64, api.Errno) {
	from, to, e := plainPlace(b, at, size)
	return new(big.Int).SetBytes(b[from:to]).Uint64(), e
}

// plainSet is what b is behind P9.2, by the library: a value's last bytes take
// the place of others.
func plainSet(b []byte, at int64, size int, v uint64) ([]byte, api.Errno) {
	from, to, e := plainPlace(b, at, size)
	whole := binary.BigEndian.AppendUint64(nil, v)
	return slices.Concat(b[:from], whole[8-(to-from):], b[to:]), e
}

// gets fails, unless Get tells what the plain way tells, and b stays.
func gets(t *testing.T, b []byte, at int64, size int) {
	t.Helper()
	was := bytes.Clone(b)
	v, e := Get(b, at, size)
	if want, we := plainGet(b, at, size); v != want || e != we {
		t.Errorf("Get of %d bytes, %d, %d: %#x, %d, not %#x, %d", len(b), at, size, v, e, want, we)
	}
	if !bytes.Equal(b, was) {
		t.Errorf("Get of %d bytes, %d, %d changed them", len(was), at, size)
	}
}

// sets fails, unless Set makes of b what the plain way makes of it, and leaves
// what stands around b as it is. b stays as it was.
func sets(t *testing.T, b []byte, at int64, size int, v uint64) {
	t.Helper()
	const around = 16
	marks := bytes.Repeat([]byte{0xa5}, around)
	memory := slices.Concat(marks, b, marks)
	packet := memory[around : around+len(b)]
	e := Set(packet, at, size, v)
	want, we := plainSet(b, at, size, v)
	if e != we || !bytes.Equal(memory, slices.Concat(marks, want, marks)) {
		t.Errorf("Set of %d bytes, %d, %d, %#x: %d, %x, not %d, %x", len(b), at, size, v, e, memory, we, want)
	}
}

// drawn is so many drawn bytes.
func drawn(r *rand.Rand, n int) []byte {
	b := make([]byte, n)
	r.Read(b)
	return b
}

// values are numbers that fit no size, one, or more: ends, and what tells the
// bytes apart.
func values() []uint64 {
	l := []uint64{0, 0x0102030405060708, 0xf1f2f3f4f5f6f7f8, 0x5555555555555555, math.MaxUint64}
	for bit := range 64 {
		l = append(l, 1<<bit, 1<<bit-1, 1<<bit+1)
	}
	return l
}

// wrongSizes are numbers that are no size: those around sizes, and those that
// would be one, cut to fewer bits or with another sign.
func wrongSizes() []int {
	l := []int{math.MinInt, math.MinInt + 1, math.MinInt + 8, math.MaxInt, math.MaxInt - 7}
	for n := -70; n <= 300; n++ {
		if n != 1 && n != 2 && n != 4 && n != 8 {
			l = append(l, n)
		}
	}
	for _, size := range []int{1, 2, 4, 8} {
		for _, bit := range []int{10, 16, 31, 32, 33, 48, 61, 62} {
			l = append(l, 1<<bit+size, 1<<bit, -1<<bit+size, -1<<bit-size)
		}
	}
	return l
}

// farPlaces are places beyond all packets, such that the sum with a size is
// beyond all numbers or, cut, within a packet, among them.
func farPlaces() []int64 {
	l := []int64{}
	for n := range int64(18) {
		l = append(l, math.MaxInt64-n, math.MinInt64+n, -n-1)
		for _, bit := range []int{8, 16, 31, 32, 33, 62} {
			l = append(l, 1<<bit+n, -1<<bit+n, -1<<bit-n)
		}
	}
	return l
}

// P9.1, P9.2: the chapter's examples.
func TestExamples(t *testing.T) {
	b := []byte{1, 2, 3}
	for _, c := range []struct {
		at   int64
		size int
		v    uint64
		e    api.Errno
	}{{0, 2, 258, api.OK}, {1, 2, 515, api.OK}, {2, 2, 0, api.ErrBounds}, {0, 3, 0, api.ErrArg}} {
		if v, e := Get(b, c.at, c.size); v != c.v || e != c.e {
			t.Errorf("Get %d, %d: %d, %d, not %d, %d", c.at, c.size, v, e, c.v, c.e)
		}
	}
	if e := Set(b, 1, 1, 511); e != api.OK || !bytes.Equal(b, []byte{1, 0xff, 3}) {
		t.Errorf("Set 1, 1, 511: %d, %x", e, b)
	}
}

// P9.1: each size by hand, the highest byte first, read from 0 on.
func TestGetByHand(t *testing.T) {
	b := []byte{0xf0, 0xe1, 0xd2, 0xc3, 0xb4, 0xa5, 0x96, 0x87, 0x78}
	for _, c := range []struct {
		at   int64
		size int
		v    uint64
	}{
		{0, 1, 0xf0}, {8, 1, 0x78},
		{0, 2, 0xf0e1}, {7, 2, 0x8778},
		{0, 4, 0xf0e1d2c3}, {5, 4, 0xa5968778},
		{0, 8, 0xf0e1d2c3b4a59687}, {1, 8, 0xe1d2c3b4a5968778},
	} {
		if v, e := Get(b, c.at, c.size); v != c.v || e != api.OK {
			t.Errorf("Get %d, %d: %#x, %d, not %#x", c.at, c.size, v, e, c.v)
		}
	}
}

// P9.2: each size by hand, with values that fit, and others that are cut.
func TestSetByHand(t *testing.T) {
	for _, c := range []struct {
		at   int64
		size int
		v    uint64
		want string
	}{
		{0, 1, 0x12, "\x12.........."}, {10, 1, 0x1234, "..........\x34"},
		{0, 2, 0x1234, "\x12\x34........."}, {9, 2, 0xfff1234, ".........\x12\x34"},
		{0, 4, 0x1234, "\x00\x00\x12\x34......."}, {7, 4, 1<<32 + 1, ".......\x00\x00\x00\x01"},
		{1, 8, 0x12, ".\x00\x00\x00\x00\x00\x00\x00\x12.."}, {3, 8, math.MaxUint64, "...\xff\xff\xff\xff\xff\xff\xff\xff"},
		{4, 1, 256, "....\x00......"}, {4, 2, 1 << 16, "....\x00\x00....."}, {4, 4, 1 << 32, "....\x00\x00\x00\x00..."},
	} {
		b := []byte("...........")
		if e := Set(b, c.at, c.size, c.v); e != api.OK || string(b) != c.want {
			t.Errorf("Set %d, %d, %#x: %d, %q, not %q", c.at, c.size, c.v, e, b, c.want)
		}
	}
}

// P9.1, P9.2: all lengths of packets around all sizes, all places around them.
func TestPlaces(t *testing.T) {
	r := rand.New(rand.NewSource(1))
	for n := range 20 {
		b := drawn(r, n)
		for _, size := range []int{1, 2, 4, 8} {
			for at := int64(-20); at <= 40; at++ {
				gets(t, b, at, size)
				sets(t, b, at, size, r.Uint64())
			}
			for _, at := range farPlaces() {
				gets(t, b, at, size)
				sets(t, b, at, size, r.Uint64())
			}
		}
	}
}

// P9.1, P9.2: the last place at which a number stands, and the one behind it,
// of long packets too, the longest one among them.
func TestLastPlaces(t *testing.T) {
	r := rand.New(rand.NewSource(2))
	for _, n := range []int{8, 9, 255, 256, 257, 1500, 65534, 65535, 65536, 65537, 1 << 20} {
		b := drawn(r, n)
		for _, size := range []int{1, 2, 4, 8} {
			last := int64(n - size)
			if _, e := Get(b, last, size); e != api.OK {
				t.Errorf("Get of %d bytes, %d, %d: %d", n, last, size, e)
			}
			if v, e := Get(b, last+1, size); v != 0 || e != api.ErrBounds {
				t.Errorf("Get of %d bytes, %d, %d: %#x, %d", n, last+1, size, v, e)
			}
			for _, at := range []int64{-1, 0, 1, last - 1, last, last + 1, last + 2, int64(n), int64(n) + 1} {
				gets(t, b, at, size)
				sets(t, b, at, size, r.Uint64())
			}
		}
	}
}

// P9.1, P9.2: packets of no bytes, and those that are shorter than a size; nil
// and empty ones are alike (R6).
func TestShort(t *testing.T) {
	for _, b := range [][]byte{nil, {}, []byte("memory")[:0], []byte("memory")[6:]} {
		for _, at := range append(farPlaces(), 0, 1, 8) {
			for _, size := range []int{1, 2, 4, 8} {
				if v, e := Get(b, at, size); v != 0 || e != api.ErrBounds {
					t.Errorf("Get of none, %d, %d: %d, %d", at, size, v, e)
				}
				if e := Set(b, at, size, 1); e != api.ErrBounds {
					t.Errorf("Set of none, %d, %d: %d", at, size, e)
				}
			}
			if v, e := Get(b, at, 0); v != 0 || e != api.ErrArg {
				t.Errorf("Get of none, %d, 0: %d, %d", at, v, e)
			}
			if e := Set(b, at, 3, 1); e != api.ErrArg {
				t.Errorf("Set of none, %d, 3: %d", at, e)
			}
		}
	}
	for _, size := range []int{2, 4, 8} {
		for n := range size {
			b := bytes.Repeat([]byte{9}, n)
			if v, e := Get(b, 0, size); v != 0 || e != api.ErrBounds {
				t.Errorf("Get of %d bytes, 0, %d: %d, %d", n, size, v, e)
			}
			if e := Set(b, 0, size, 1); e != api.ErrBounds || !bytes.Equal(b, bytes.Repeat([]byte{9}, n)) {
				t.Errorf("Set of %d bytes, 0, %d: %d, %x", n, size, e, b)
			}
		}
	}
}

// P9.1, P9.2: numbers that are no size are ErrArg, at a place or at none.
func TestWrongSizes(t *testing.T) {
	whole := bytes.Repeat([]byte{7}, 300)
	places := append(farPlaces(), 0, 1, 5, 8, 290, 299, 300, 301)
	for _, size := range wrongSizes() {
		for _, n := range []int{0, 1, 3, 8, 16, 300} {
			b := bytes.Clone(whole[:n])
			for _, at := range places {
				if v, e := Get(b, at, size); v != 0 || e != api.ErrArg {
					t.Fatalf("Get of %d bytes, %d, %d: %d, %d", n, at, size, v, e)
				}
				if e := Set(b, at, size, math.MaxUint64); e != api.ErrArg {
					t.Fatalf("Set of %d bytes, %d, %d: %d", n, at, size, e)
				}
			}
			if !bytes.Equal(b, whole[:n]) {
				t.Fatalf("Set of %d bytes with the size %d made %x of them", n, size, b)
			}
		}
	}
}

// P9.1, P9.2: what stands behind b's length, in the same memory, is none of it.
func TestBehindTheLength(t *testing.T) {
	for n := range 20 {
		memory := bytes.Repeat([]byte{0xa5}, 40)
		b := memory[4 : 4+n]
		for _, size := range []int{1, 2, 4, 8} {
			for at := int64(n - size + 1); at < 40; at++ {
				if v, e := Get(b, at, size); v != 0 || e != api.ErrBounds {
					t.Errorf("Get of %d bytes, %d, %d: %#x, %d", n, at, size, v, e)
				}
				if e := Set(b, at, size, 0); e != api.ErrBounds {
					t.Errorf("Set of %d bytes, %d, %d: %d", n, at, size, e)
				}
			}
		}
		if !bytes.Equal(memory, bytes.Repeat([]byte{0xa5}, 40)) {
			t.Errorf("Set changed what stands around %d bytes: %x", n, memory)
		}
	}
}

// P9.2, P9.3: values of all kinds are cut to their size, put and got; all other
// bytes stay, those around b too.
func TestValues(t *testing.T) {
	b := bytes.Repeat([]byte{0x3c}, 19)
	for _, v := range values() {
		for _, size := range []int{1, 2, 4, 8} {
			for at := range int64(len(b)) {
				sets(t, b, at, size, v)
			}
		}
	}
}

// P9.1, P9.3: each bit of a packet stands in the number at its place alone.
func TestEachBit(t *testing.T) {
	for bit := range 8 * 12 {
		b := make([]byte, 12)
		b[bit/8] = 1 << (bit % 8)
		for _, size := range []int{1, 2, 4, 8} {
			for at := 0; at+size <= len(b); at++ {
				want := uint64(0)
				if behind := at + size - 1 - bit/8; 0 <= behind && behind < size {
					want = 1 << (8*behind + bit%8)
				}
				if v, e := Get(b, int64(at), size); v != want || e != api.OK {
					t.Errorf("bit %d: Get %d, %d: %#x, %d, not %#x", bit, at, size, v, e, want)
				}
			}
		}
	}
}

// cut is v modulo 2 to the power 8 times size.
func cut(v uint64, size int) uint64 {
	if size == 8 {
		return v
	}
	return v % (1 << (8 * size))
}

// P9.3: what was set is got, cut to its size; and its bytes one by one.
func TestSetIsGot(t *testing.T) {
	r := rand.New(rand.NewSource(3))
	for _, v := range append(values(), r.Uint64(), r.Uint64(), r.Uint64()) {
		for _, size := range []int{1, 2, 4, 8} {
			b := drawn(r, 24)
			for at := range int64(len(b) - size + 1) {
				if e := Set(b, at, size, v); e != api.OK {
					t.Fatalf("Set %d, %d, %#x: %d", at, size, v, e)
				}
				if got, e := Get(b, at, size); got != cut(v, size) || e != api.OK {
					t.Fatalf("Set %d, %d, %#x is got as %#x, %d", at, size, v, got, e)
				}
				for i := range int64(size) {
					want := v >> (8 * (int64(size) - 1 - i)) & 0xff
					if got, e := Get(b, at+i, 1); got != want || e != api.OK {
						t.Fatalf("Set %d, %d, %#x: the byte %d is got as %#x, %d", at, size, v, i, got, e)
					}
				}
			}
		}
	}
}

// P9.3: a number is got as its bytes are that were set one by one, and as its
// halves are.
func TestGotByParts(t *testing.T) {
	r := rand.New(rand.NewSource(4))
	for range 300 {
		b := make([]byte, 16)
		one := drawn(r, 16)
		for i, c := range one {
			if e := Set(b, int64(i), 1, r.Uint64()<<8|uint64(c)); e != api.OK {
				t.Fatalf("Set %d, 1: %d", i, e)
			}
		}
		for _, size := range []int{2, 4, 8} {
			for at := range int64(16 - size + 1) {
				v, e := Get(b, at, size)
				sum := uint64(0)
				for i := range size {
					sum = 256*sum + uint64(one[int(at)+i])
				}
				half := int64(size / 2)
				high, _ := Get(b, at, size/2)
				low, _ := Get(b, at+half, size/2)
				if e != api.OK || v != sum || v != high<<(8*half)+low {
					t.Fatalf("Get of %x, %d, %d: %#x, %d", one, at, size, v, e)
				}
			}
		}
	}
}

// P9.2: of numbers that overlap, the last one that was set stands whole, and of
// the others what is left.
func TestOverlaps(t *testing.T) {
	r := rand.New(rand.NewSource(5))
	sizes := []int{1, 2, 4, 8, 3, 0, 16, -1}
	b, plain := make([]byte, 33), make([]byte, 33)
	for range 20000 {
		at, size, v := int64(r.Intn(40)-3), sizes[r.Intn(len(sizes))], r.Uint64()
		e := Set(b, at, size, v)
		next, we := plainSet(plain, at, size, v)
		if plain = next; e != we || !bytes.Equal(b, plain) {
			t.Fatalf("Set %d, %d, %#x: %d, %x, not %d, %x", at, size, v, e, b, we, plain)
		}
		gets(t, b, int64(r.Intn(40)-3), sizes[r.Intn(len(sizes))])
	}
}

// P9.2: each byte may be set to each, whatever it was.
func TestEachByte(t *testing.T) {
	for was := range 256 {
		for now := range 256 {
			b := []byte{1, byte(was), 2}
			if e := Set(b, 1, 1, uint64(now)); e != api.OK || !bytes.Equal(b, []byte{1, byte(now), 2}) {
				t.Fatalf("%d, set to %d: %d, %x", was, now, e, b)
			}
		}
	}
}

// R4: what is got hangs on the packet as it is now alone, not on what was asked
// ahead, nor on who else asks.
func TestAlike(t *testing.T) {
	r := rand.New(rand.NewSource(6))
	shared := drawn(r, 64)
	var wait sync.WaitGroup
	for worker := range 4 {
		own := drawn(r, 64)
		wait.Go(func() {
			for round := range 2000 {
				at, size := int64(round*7%70)-2, []int{1, 2, 4, 8, 5}[(round+worker)%5]
				v := uint64(round) * 0x9e3779b97f4a7c15
				gets(t, shared, at, size)
				sets(t, own, at, size, v)
				Set(own, at, size, v)
				gets(t, own, at, size)
			}
		})
	}
	wait.Wait()
}

// P9.1 to P9.3: whatever comes.
func FuzzGetSet(f *testing.F) {
	f.Add([]byte{1, 2, 3}, int64(0), 2, uint64(511))
	f.Add([]byte{}, int64(-1), 8, uint64(0))
	f.Add([]byte("abcdefgh"), int64(0), 8, uint64(math.MaxUint64))
	f.Add([]byte("abc"), int64(math.MaxInt64), 8, uint64(1))
	f.Add([]byte("abc"), int64(math.MinInt64), 3, uint64(1))
	f.Fuzz(func(t *testing.T, b []byte, at int64, size int, v uint64) {
		gets(t, b, at, size)
		sets(t, b, at, size, v)
		within := int64(uint64(at) % uint64(len(b)+1))
		gets(t, b, within, 1<<(size&3))
		sets(t, b, within, 1<<(size&3), v)
	})
}
