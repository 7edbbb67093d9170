package mac

import (
	"bytes"
	"crypto/hmac"
	"crypto/sha256"
	"encoding/hex"
	"math/rand"
	"strings"
	"sync"
	"testing"

	"barbican/sha"
)

// plain is a tag by the library.
func plain(key, b []byte) []byte {
	h := hmac.New(sha256.New, key)
	h.Write(b)
	return h.Sum(nil)
}

// tags fails, unless Tag tells what the library tells, Fits that it fits, and
// both leave what they are given as it is.
func tags(t *testing.T, key, b []byte) {
	t.Helper()
	wasKey, was := bytes.Clone(key), bytes.Clone(b)
	want := plain(key, b)
	if got := Tag(key, b); !bytes.Equal(got, want) {
		t.Fatalf("Tag by %d bytes of %d: %x, not %x", len(key), len(b), got, want)
	}
	tag := bytes.Clone(want)
	if !Fits(key, b, tag) {
		t.Fatalf("the tag by %d bytes of %d does not fit", len(key), len(b))
	}
	if !bytes.Equal(key, wasKey) || !bytes.Equal(b, was) || !bytes.Equal(tag, want) {
		t.Fatalf("a tag by %d bytes of %d changed what was given", len(key), len(b))
	}
}

// drawn is so many drawn bytes.
func drawn(r *rand.Rand, n int) []byte {
	b := make([]byte, n)
	r.Read(b)
	return b
}

// filled is so many bytes c.
func filled(c byte, n int) []byte {
	return bytes.Repeat([]byte{c}, n)
}

// rising is so many bytes from 1 on.
func rising(n int) []byte {
	b := make([]byte, n)
	for i := range b {
		b[i] = byte(i + 1)
	}
	return b
}

// P5.1: tags that are known (RFC 4231), the chapter's example among them; of
// one of them only the first half is.
func TestKnown(t *testing.T) {
	for i, c := range []struct {
		key  []byte
		b    string
		want string
	}{
		{nil, "", "b613679a0814d9ec772f95d778c35fc5ff1697c493715653c6c712144292c5ad"},
		{filled(0x0b, 20), "Hi There", "b0344c61d8db38535ca8afceaf0bf12b881dc200c9833da726e9376c2e32cff7"},
		{[]byte("Jefe"), "what do ya want for nothing?", "5bdcc146bf60754e6a042426089575c75a003f089d2739839dec58b964ec3843"},
		{filled(0xaa, 20), strings.Repeat("\xdd", 50), "773ea91e36800e46854db8ebd09181a72959098b3ef8c122d9635514ced565fe"},
		{rising(25), strings.Repeat("\xcd", 50), "82558a389a443c0ea4cc819899f2083a85f0faa3e578f8077a2e3ff46729665b"},
		{filled(0x0c, 20), "Test With Truncation", "a3b6167473100ee06e0c796c2955552b"},
		{filled(0xaa, 131), "Test Using Larger Than Block-Size Key - Hash Key First", "60e431591ee0b67f0d8a26aacbf5b77f8e0bc6213728c5140546040f0ee37f54"},
		{filled(0xaa, 131), "This is a test using a larger than block-size key and a larger than block-size data. The key needs to be hashed before being used by the HMAC algorithm.", "9b09ffa71b942fcb27635fbcd5b0e944bfdc63644f0713938a7f51535c3a35e2"},
	} {
		tag := Tag(c.key, []byte(c.b))
		if got := hex.EncodeToString(tag); len(got) != 64 || !strings.HasPrefix(got, c.want) {
			t.Errorf("%d: %s, not %s", i, got, c.want)
		}
		if !Fits(c.key, []byte(c.b), tag) {
			t.Errorf("%d: its tag does not fit", i)
		}
		tag[31]++
		if Fits(c.key, []byte(c.b), tag) {
			t.Errorf("%d: a tag with another last byte fits", i)
		}
	}
}

// P5.1: a tag is put together of the key's block under two numbers, as the
// chapter says it.
func TestByWords(t *testing.T) {
	r := rand.New(rand.NewSource(1))
	for range 300 {
		key, b := drawn(r, r.Intn(130)), drawn(r, r.Intn(130))
		row := bytes.Clone(key)
		if len(key) > 64 {
			row = sha.Sum(key)
		}
		ahead, behind := filled(0x5C, 64), filled(0x36, 64)
		for i, c := range row {
			ahead[i] ^= c
			behind[i] ^= c
		}
		want := sha.Sum(append(ahead, sha.Sum(append(behind, b...))...))
		if got := Tag(key, b); !bytes.Equal(got, want) {
			t.Fatalf("Tag by %x of %x: %x, not %x", key, b, got, want)
		}
	}
}

// P5.1: keys of all lengths around 64 bytes, and around a digest's blocks.
func TestKeyLengths(t *testing.T) {
	r := rand.New(rand.NewSource(2))
	for n := range 4*64 + 2 {
		for _, key := range [][]byte{make([]byte, n), filled(0xff, n), filled(0x5C, n), filled(0x36, n), drawn(r, n)} {
			tags(t, key, nil)
			tags(t, key, []byte("abc"))
			tags(t, key, drawn(r, r.Intn(100)))
		}
	}
	for _, n := range []int{1023, 1024, 1025, 1 << 16, 1<<20 + 1} {
		tags(t, drawn(r, n), drawn(r, 10))
	}
}

// P5.1: bytes of all lengths around blocks' ends, by keys around 64 bytes.
func TestLengths(t *testing.T) {
	r := rand.New(rand.NewSource(3))
	for _, size := range []int{0, 1, 32, 63, 64, 65, 128} {
		for n := range 4*64 + 2 {
			tags(t, drawn(r, size), drawn(r, n))
		}
		for _, n := range []int{4095, 4096, 4097, 1<<18 + 1} {
			tags(t, drawn(r, size), drawn(r, n))
		}
	}
}

// P5.1: 32 bytes come out of all; no bytes, nil or empty, are one (R6).
func TestNoBytes(t *testing.T) {
	none := [][]byte{nil, {}, []byte("abc")[:0]}
	for _, key := range none {
		for _, b := range none {
			tags(t, key, b)
			if tag := Tag(key, b); len(tag) != 32 || !bytes.Equal(tag, Tag(nil, nil)) {
				t.Errorf("Tag by no bytes of none: %x", tag)
			}
			for _, tag := range none {
				if Fits(key, b, tag) {
					t.Error("no tag fits")
				}
			}
		}
	}
}

// P5.1: each bit of a key and of the bytes counts, so does which of the two it
// is in.
func TestEachBit(t *testing.T) {
	for _, size := range []int{1, 63, 64, 65, 100} {
		key, b := make([]byte, size), filled(7, 70)
		tag := Tag(key, b)
		seen := map[string]bool{string(tag): true}
		for _, row := range [][]byte{key, b} {
			for bit := range 8 * len(row) {
				row[bit/8] ^= 1 << (bit % 8)
				tags(t, key, b)
				if Fits(key, b, tag) {
					t.Fatalf("a key of %d: a tag fits behind bit %d", size, bit)
				}
				seen[string(Tag(key, b))] = true
				row[bit/8] ^= 1 << (bit % 8)
			}
		}
		if want := 8*(len(key)+len(b)) + 1; len(seen) != want {
			t.Errorf("a key of %d: %d tags, not %d", size, len(seen), want)
		}
	}
	if bytes.Equal(Tag([]byte("ab"), []byte("c")), Tag([]byte("a"), []byte("bc"))) || bytes.Equal(Tag([]byte("a"), []byte("b")), Tag([]byte("b"), []byte("a"))) {
		t.Error("a key and bytes are mixed up")
	}
}

// P5.2, P5.3: a tag that is turned in a bit, or in more, does not fit.
func TestTurned(t *testing.T) {
	r := rand.New(rand.NewSource(4))
	for range 20 {
		key, b := drawn(r, r.Intn(130)), drawn(r, r.Intn(130))
		tag := Tag(key, b)
		for bit := range 8 * len(tag) {
			tag[bit/8] ^= 1 << (bit % 8)
			if Fits(key, b, tag) {
				t.Fatalf("a tag by %x of %x fits with bit %d turned", key, b, bit)
			}
			// Two that are turned alike, as a sum or an exclusive or of the
			// bytes would not see them.
			other := (bit + 8) % (8 * len(tag))
			tag[other/8] ^= 1 << (other % 8)
			if Fits(key, b, tag) {
				t.Fatalf("a tag by %x of %x fits with bits %d and %d turned", key, b, bit, other)
			}
			tag[other/8] ^= 1 << (other % 8)
			tag[bit/8] ^= 1 << (bit % 8)
		}
		if !Fits(key, b, tag) {
			t.Fatalf("the tag by %x of %x does not fit", key, b)
		}
	}
}

// P5.2, P5.3: a tag that is cut, at either end, or longer does not fit.
func TestOtherLengths(t *testing.T) {
	key, b := []byte("Jefe"), []byte("what do ya want for nothing?")
	tag := Tag(key, b)
	for n := range tag {
		if Fits(key, b, tag[:n]) || Fits(key, b, tag[n+1:]) {
			t.Errorf("the first %d bytes of a tag, or those behind one more, fit", n)
		}
		if short := append(bytes.Clone(tag[:n]), tag[n+1:]...); Fits(key, b, short) {
			t.Errorf("a tag without its byte %d fits", n)
		}
		if Fits(key, b, append(bytes.Clone(tag[:n]), make([]byte, 32-n)...)) {
			t.Errorf("the first %d bytes of a tag, with noughts behind, fit", n)
		}
	}
	for n := 1; n < 100; n++ {
		for _, c := range []byte{0, 1, 255} {
			if Fits(key, b, append(bytes.Clone(tag), filled(c, n)...)) || Fits(key, b, append(filled(c, n), tag...)) {
				t.Errorf("a tag with %d bytes %d more fits", n, c)
			}
		}
	}
	if Fits(key, b, append(bytes.Clone(tag), tag...)) || Fits(key, b, []byte(hex.EncodeToString(tag))) {
		t.Error("a tag that is there twice, or written out, fits")
	}
}

// P5.2: what is no tag, or one of other bytes or another key, does not fit.
func TestOtherTags(t *testing.T) {
	key, b := []byte("Jefe"), []byte("what do ya want for nothing?")
	for i, tag := range [][]byte{
		make([]byte, 32),
		filled(255, 32),
		sha.Sum(b),
		sha.Sum(append(bytes.Clone(key), b...)),
		Tag(b, key),
		Tag(key, b[1:]),
		Tag(key, append(bytes.Clone(b), 0)),
		Tag(key, nil),
		Tag(nil, b),
		Tag(key[:3], b),
		Tag([]byte("jefe"), b),
		Tag([]byte("\x00Jefe"), b),
		Tag(sha.Sum(key), b),
	} {
		if Fits(key, b, tag) {
			t.Errorf("%d: %x fits", i, tag)
		}
	}
}

// P5.3: noughts behind a key, up to 64 bytes, make the same tags; a byte more
// does not, nor do noughts ahead.
func TestNoughts(t *testing.T) {
	r := rand.New(rand.NewSource(5))
	b := []byte("abc")
	for size := range 64 {
		key := append(drawn(r, size), 1)
		tag := Tag(key, b)
		for n := range 80 {
			longer := append(bytes.Clone(key), make([]byte, n)...)
			same := len(longer) <= 64 || n == 0
			if bytes.Equal(Tag(longer, b), tag) != same || Fits(longer, b, tag) != same {
				t.Fatalf("a key of %d bytes with %d noughts behind: same is not %v", len(key), n, same)
			}
		}
		key[0] = 1 // so that noughts ahead make another block
		if Fits(append([]byte{0}, key...), b, Tag(key, b)) {
			t.Fatalf("a key of %d bytes with a nought ahead makes the same tag", len(key))
		}
	}
	for n := range 65 {
		if !Fits(make([]byte, n), b, Tag(nil, b)) {
			t.Errorf("%d noughts are not the key of no bytes", n)
		}
	}
	if Fits(make([]byte, 65), b, Tag(nil, b)) {
		t.Error("65 noughts are the key of no bytes")
	}
}

// P5.3: the digest of a key of more than 64 bytes makes the same tags; that of
// one of at most 64 bytes does not.
func TestDigestOfKey(t *testing.T) {
	r := rand.New(rand.NewSource(6))
	for n := range 200 {
		key, b := drawn(r, n), drawn(r, n)
		same := n > 64
		if bytes.Equal(Tag(sha.Sum(key), b), Tag(key, b)) != same || Fits(sha.Sum(key), b, Tag(key, b)) != same {
			t.Errorf("a key of %d bytes, and its digest: same is not %v", n, same)
		}
	}
}

// R3: what is told is new memory each time.
func TestNewMemory(t *testing.T) {
	for _, n := range []int{0, 10, 32, 64, 65, 200} {
		key, b := filled(1, n), filled(2, n)
		one := Tag(key, b)
		was := bytes.Clone(one)
		clear(Tag(key, b))
		_ = append(one[:16], 1)
		one[0]++
		if !bytes.Equal(Tag(key, b), was) || !bytes.Equal(key, filled(1, n)) || !bytes.Equal(b, filled(2, n)) {
			t.Errorf("a tag by %d bytes shares memory", n)
		}
	}
}

// R3: what stands behind an argument's end, in the same memory, neither counts
// nor is written to; a key, bytes and a tag may share theirs.
func TestBehindTheEnd(t *testing.T) {
	for n := range 150 {
		whole := rising(400)
		tags(t, whole[:n], whole[n:2*n])
		tags(t, whole[100:100+n], whole[:n])
		tags(t, whole[:n], whole[:n])
		Fits(whole[:n], whole[1:n+1], whole[2:34])
		if !bytes.Equal(whole, rising(400)) {
			t.Fatalf("a tag by %d bytes wrote behind what was given", n)
		}
	}
	memory := append([]byte("key"), Tag([]byte("key"), []byte("key"))...)
	if !Fits(memory[:3], memory[:3], memory[3:]) || Fits(memory[:3], memory[:3], memory[3:34]) {
		t.Error("a tag in its key's memory is taken for another one")
	}
}

// R4: a tag hangs on the key and the bytes alone: not on what was asked ahead,
// nor on who else asks.
func TestAlike(t *testing.T) {
	r := rand.New(rand.NewSource(7))
	var all [][]byte
	for n := range 150 {
		all = append(all, drawn(r, n))
	}
	var wait sync.WaitGroup
	for range 4 {
		wait.Go(func() {
			for i, key := range all {
				b := all[len(all)-1-i]
				if want := plain(key, b); !bytes.Equal(Tag(key, b), want) || !Fits(key, b, want) {
					t.Errorf("Tag by %d bytes of %d is another one", len(key), len(b))
				}
			}
		})
	}
	wait.Wait()
}
