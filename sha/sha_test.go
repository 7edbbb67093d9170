package sha

import (
	"bytes"
	"crypto/sha256"
	"encoding/binary"
	"encoding/hex"
	"math/big"
	"math/rand"
	"strings"
	"sync"
	"testing"
)

// sums fails, unless Sum tells what the library tells, and leaves b as it is.
func sums(t *testing.T, b []byte) {
	t.Helper()
	was := bytes.Clone(b)
	want := sha256.Sum256(b)
	if got := Sum(b); !bytes.Equal(got, want[:]) {
		t.Fatalf("Sum of %d bytes: %x, not %x", len(b), got, want)
	}
	if !bytes.Equal(b, was) {
		t.Fatalf("Sum changed %d bytes", len(b))
	}
}

func drawn(r *rand.Rand, n int) []byte {
	b := make([]byte, n)
	r.Read(b)
	return b
}

// P4.1: the chapter's example, and digests that are known.
func TestKnown(t *testing.T) {
	for s, want := range map[string]string{
		"":    "e3b0c44298fc1c149afbf4c8996fb92427ae41e4649b934ca495991b7852b855",
		"a":   "ca978112ca1bbdcafac231b39a23dc4da786eff8147c4e72b9807785afee48bb",
		"abc": "ba7816bf8f01cfea414140de5dae2223b00361a396177a9cb410ff61f20015ad",
		"abcdbcdecdefdefgefghfghighijhijkijkljklmklmnlmnomnopnopq":                                                         "248d6a61d20638b8e5c026930c3e6039a33ce45964ff2167f6ecedd419db06c1",
		"abcdefghbcdefghicdefghijdefghijkefghijklfghijklmghijklmnhijklmnoijklmnopjklmnopqklmnopqrlmnopqrsmnopqrstnopqrstu": "cf5b16a778af8380036ce59e7b0492370b249b11e8f07a51afac45037afee9d1",
		strings.Repeat("a", 1000000): "cdc76e5c9914fb9281a1c7e284d73e67f1809a48a497200e046d39ccc7112cd0",
	} {
		if got := hex.EncodeToString(Sum([]byte(s))); got != want {
			t.Errorf("%d bytes: %s, not %s", len(s), got, want)
		}
	}
}

// P4.1: bytes around every block's end, and around where the count of bits no
// longer has room in the last block (55 and 56 bytes, 119 and 120, ..).
func TestLengths(t *testing.T) {
	r := rand.New(rand.NewSource(1))
	for n := range 5*blockSize + 2 {
		sums(t, make([]byte, n))
		sums(t, bytes.Repeat([]byte{0xff}, n))
		sums(t, bytes.Repeat([]byte{128}, n))
		sums(t, drawn(r, n))
	}
	for _, n := range []int{1023, 1024, 1025, 4095, 4096, 4097, 1<<18 - 1, 1 << 18, 1<<18 + 1} {
		sums(t, drawn(r, n))
	}
}

// P4.1: drawn bytes of drawn lengths.
func TestDrawn(t *testing.T) {
	r := rand.New(rand.NewSource(2))
	for range 5000 {
		sums(t, drawn(r, r.Intn(1000)))
	}
}

// P4.1: every single bit counts, whichever byte and block it is in.
func TestEachBit(t *testing.T) {
	b := make([]byte, 2*blockSize)
	seen := map[string]bool{string(Sum(b)): true}
	for bit := range 8 * len(b) {
		b[bit/8] ^= 1 << (bit % 8)
		sums(t, b)
		seen[string(Sum(b))] = true
		b[bit/8] ^= 1 << (bit % 8)
	}
	if len(seen) != 8*len(b)+1 {
		t.Errorf("%d digests", len(seen))
	}
}

// P4.1: noughts more or fewer, or an end like a message's own, are other
// bytes, and have another digest.
func TestEndsLikeAMessage(t *testing.T) {
	seen := map[string]int{}
	for n := range 300 {
		for _, b := range [][]byte{make([]byte, n), end(make([]byte, n%blockSize), uint64(n))} {
			sums(t, b)
		}
		if m, ok := seen[string(Sum(make([]byte, n)))]; ok {
			t.Errorf("%d and %d noughts have one digest", m, n)
		}
		seen[string(Sum(make([]byte, n)))] = n
	}
}

// P4.1: a message's end: one byte 128, noughts, the count of bits, so that all
// is whole blocks, and not one block more than must be.
func TestEnd(t *testing.T) {
	const most = 1<<31 - 1
	for _, length := range []uint64{0, 1, 31, 32, 54, 55, 56, 57, 63, 64, 119, 120, 8191, 8192, 1<<29 - 1, 1 << 29, 1<<29 + 1, 1<<30 + 55, 1<<30 + 56, most - 64, most - 7, most - 8, most} {
		rest := bytes.Repeat([]byte{0xa5}, int(length%64))
		want := append(bytes.Clone(rest), 128)
		for len(want)%64 != 56 {
			want = append(want, 0)
		}
		want = binary.BigEndian.AppendUint64(want, 8*length)
		if got := end(rest, length); !bytes.Equal(got, want) {
			t.Errorf("end of %d bytes: %x, not %x", length, got, want)
		}
	}
}

// P4.1: 2^29 bytes are the fewest whose count of bits needs more than 32 bits.
func TestManyBytes(t *testing.T) {
	if testing.Short() {
		t.Skip("half a gigabyte")
	}
	b := make([]byte, 1<<29)
	want := sha256.Sum256(b)
	if got := Sum(b); !bytes.Equal(got, want[:]) {
		t.Errorf("Sum of %d bytes: %x, not %x", len(b), got, want)
	}
}

// primes is the first n primes.
func primes(n int) []int64 {
	var l []int64
	for p := int64(2); len(l) < n; p++ {
		if big.NewInt(p).ProbablyPrime(20) {
			l = append(l, p)
		}
	}
	return l
}

// rooted tells whether word is the first 32 bits behind the point of the
// power-th root of p: whether with some whole number ahead of the point it is
// a number whose power is at most p * 2^(32*power), and one more is too great.
func rooted(word uint32, p int64, power int) bool {
	aim := new(big.Int).Lsh(big.NewInt(p), uint(32*power))
	for whole := int64(0); whole < 32; whole++ {
		x := new(big.Int).Add(new(big.Int).Lsh(big.NewInt(whole), 32), big.NewInt(int64(word)))
		y := new(big.Int).Add(x, big.NewInt(1))
		n := big.NewInt(int64(power))
		if x.Exp(x, n, nil).Cmp(aim) <= 0 && y.Exp(y, n, nil).Cmp(aim) > 0 {
			return true
		}
	}
	return false
}

// P4.1: the constants are what the chapter says of roots of primes.
func TestConstants(t *testing.T) {
	for i, p := range primes(64) {
		if !rooted(constants[i], p, 3) {
			t.Errorf("k%d: %#x", i, constants[i])
		}
	}
	for i, p := range primes(8) {
		if !rooted(start[i], p, 2) {
			t.Errorf("h%d: %#x", i, start[i])
		}
	}
}

// P4.1: no bytes, nil or empty, are one (R6), and 32 bytes come out of all.
func TestNoBytes(t *testing.T) {
	sums(t, nil)
	sums(t, []byte{})
	sums(t, make([]byte, 10)[:0])
	for n := range 130 {
		if got := len(Sum(make([]byte, n))); got != 32 {
			t.Fatalf("Sum of %d bytes has %d", n, got)
		}
	}
}

// R3: what is told is new memory each time; what stands behind b's end, in the
// same memory, neither counts nor is written to.
func TestNewMemory(t *testing.T) {
	b := []byte("abc")
	one := Sum(b)
	was := bytes.Clone(one)
	two := Sum(b)
	clear(two)
	_ = append(one, 1)
	if !bytes.Equal(one, was) || !bytes.Equal(Sum(b), was) || string(b) != "abc" {
		t.Error("digests share memory")
	}
	for n := range 150 {
		whole := bytes.Repeat([]byte{7}, 300)
		sums(t, whole[:n])
		if !bytes.Equal(whole, bytes.Repeat([]byte{7}, 300)) {
			t.Fatalf("Sum of %d bytes wrote behind them", n)
		}
	}
}

// R4: a digest hangs on the bytes alone: not on what was asked ahead, nor on
// who else asks.
func TestAlike(t *testing.T) {
	r := rand.New(rand.NewSource(3))
	var all [][]byte
	for n := range 200 {
		all = append(all, drawn(r, n))
	}
	var wait sync.WaitGroup
	for range 4 {
		wait.Go(func() {
			for _, b := range all {
				if want := sha256.Sum256(b); !bytes.Equal(Sum(b), want[:]) {
					t.Errorf("Sum of %d bytes is another one", len(b))
				}
			}
		})
	}
	wait.Wait()
}
