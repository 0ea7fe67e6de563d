package sha_test

import (
	"bytes"
	"crypto/sha256"
	"encoding"
	"encoding/binary"
	"encoding/hex"
	"hash"
	"math"
	"math/big"
	"math/bits"
	"math/rand"
	"slices"
	"strings"
	"testing"

	"palimpsest/api"
	"palimpsest/sha"
)

// noise answers n bytes without order, the same ones each time.
func noise(n int) []byte {
	b := make([]byte, n)
	rand.New(rand.NewSource(int64(n))).Read(b)
	return b
}

// odd answers a digest that may be, of n bytes, with words that no text need have led to.
func odd(n uint64) api.Sha {
	chance := rand.New(rand.NewSource(int64(n)))
	h := make([]uint32, 8)
	for i := range h {
		h[i] = chance.Uint32()
	}
	return api.Sha{H: h, Buf: noise(int(n % 64)), N: n}
}

// clone answers a digest in memory of its own.
func clone(s api.Sha) api.Sha {
	return api.Sha{H: slices.Clone(s.H), Buf: slices.Clone(s.Buf), N: s.N}
}

// same tells whether digests are alike.
func same(a api.Sha, b api.Sha) bool {
	return slices.Equal(a.H, b.H) && bytes.Equal(a.Buf, b.Buf) && a.N == b.N
}

// fraction answers the first 32 bits of the fractional part of a root of x, the square root (2) or the cube root (3).
func fraction(x int64, root int64) uint32 {
	// The greatest number whose power is at most x times 2 to the 32 times root.
	most := new(big.Int).Lsh(big.NewInt(x), uint(32*root))
	n := new(big.Int)
	for i := 40; i >= 0; i-- {
		n.SetBit(n, i, 1)
		if new(big.Int).Exp(n, big.NewInt(root), nil).Cmp(most) > 0 {
			n.SetBit(n, i, 0)
		}
	}
	return uint32(n.Uint64())
}

// fractions answers those of the first n primes.
func fractions(n int, root int64) []uint32 {
	var l []uint32
	for p := int64(2); len(l) < n; p++ {
		if big.NewInt(p).ProbablyPrime(0) {
			l = append(l, fraction(p, root))
		}
	}
	return l
}

var roots = fractions(64, 3)

// turned turns x to the right, bit by bit.
func turned(x uint32, by int) uint32 {
	for range by {
		x = x/2 + x%2<<31
	}
	return x
}

// three is r of the promise's words, and q with a shift at last.
func three(x uint32, a int, b int, c int) uint32 { return turned(x, a) ^ turned(x, b) ^ turned(x, c) }
func shift(x uint32, a int, b int, c int) uint32 { return turned(x, a) ^ turned(x, b) ^ x>>c }

// blockByWords puts a block into H as the promise's words have it.
func blockByWords(h []uint32, block []byte) []uint32 {
	w := make([]uint32, 64)
	for i := range 16 {
		w[i] = binary.BigEndian.Uint32(block[4*i:])
	}
	for i := 16; i < 64; i++ {
		w[i] = w[i-16] + w[i-7] + shift(w[i-15], 7, 18, 3) + shift(w[i-2], 17, 19, 10)
	}
	v := slices.Clone(h)
	for i := range 64 {
		a, b, c, d, e, f, g := v[0], v[1], v[2], v[3], v[4], v[5], v[6]
		t := v[7] + three(e, 6, 11, 25) + (e&f | ^e&g) + roots[i] + w[i]
		var two uint32
		for j := range 32 {
			if a>>j&1+b>>j&1+c>>j&1 >= 2 {
				two |= 1 << j
			}
		}
		u := three(a, 2, 13, 22) + two
		v = []uint32{t + u, a, b, c, d + t, e, f, g}
	}
	for i := range v {
		v[i] += h[i]
	}
	return v
}

// writeByWords is Write of a digest that may be, as the promise's words have it.
func writeByWords(s api.Sha, b []byte) api.Sha {
	all := slices.Concat(s.Buf, b)
	h := slices.Clone(s.H)
	for len(all) >= 64 {
		h = blockByWords(h, all[:64])
		all = all[64:]
	}
	return api.Sha{H: h, Buf: all, N: s.N + uint64(len(b))}
}

// doneByWords is Done of a digest that may be, as the promise's words have it.
func doneByWords(s api.Sha) []byte {
	end := writeByWords(s, []byte{0x80})
	for len(end.Buf) != 56 {
		end = writeByWords(end, []byte{0})
	}
	end = writeByWords(end, binary.BigEndian.AppendUint64(nil, s.N*8))
	var out []byte
	for _, x := range end.H {
		out = binary.BigEndian.AppendUint32(out, x)
	}
	return out
}

// another answers the library's digest that is as far as s.
func another(t *testing.T, s api.Sha) hash.Hash {
	t.Helper()
	b := []byte("sha\x03")
	for _, x := range s.H {
		b = binary.BigEndian.AppendUint32(b, x)
	}
	b = append(append(b, s.Buf...), make([]byte, 64-len(s.Buf))...)
	b = binary.BigEndian.AppendUint64(b, s.N)
	d := sha256.New()
	if err := d.(encoding.BinaryUnmarshaler).UnmarshalBinary(b); err != nil {
		t.Fatal(err)
	}
	return d
}

// counts answers numbers of bytes that may have been written: small ones, and those at the borders of words.
func counts() []uint64 {
	var all []uint64
	for n := range uint64(200) {
		all = append(all, n, math.MaxUint64-n)
	}
	for _, n := range []uint64{1 << 29, 1 << 31, 1 << 32, 1 << 53, 1 << 60, 1 << 61, 1 << 62, 1 << 63} {
		for i := range uint64(70) {
			all = append(all, n-1-i, n+i)
		}
	}
	return all
}

// wrong answers digests that may not be.
func wrong() []api.Sha {
	h := odd(0).H
	all := []api.Sha{
		{},
		{N: 7},
		{Buf: noise(5), N: 5},
		{H: []uint32{}},
		{H: h[:1]},
		{H: h[:7]},
		{H: slices.Concat(h, []uint32{0})},
		{H: slices.Concat(h, h)},
		{H: h, N: 1},
		{H: h, N: 63},
		{H: h, N: math.MaxUint64},
		{H: h, Buf: noise(1)},
		{H: h, Buf: noise(1), N: 64},
		{H: h, Buf: noise(1), N: 2},
		{H: h, Buf: noise(63), N: 62},
		{H: h, Buf: noise(63), N: 64},
		// As many as N has, but no less than 64.
		{H: h, Buf: noise(64)},
		{H: h, Buf: noise(64), N: 64},
		{H: h, Buf: noise(64), N: 128},
		{H: h, Buf: noise(65), N: 1},
		{H: h, Buf: noise(65), N: 65},
		{H: h, Buf: noise(128), N: 128},
		{H: h, Buf: noise(200), N: 200},
		// More than the promise's numbers in a byte.
		{H: h, Buf: noise(256), N: 0},
		{H: h, Buf: noise(256 + 5), N: 5},
		{H: h, Buf: noise(1<<16 + 5), N: 5},
	}
	for n := range 300 {
		s := odd(uint64(n))
		all = append(all,
			api.Sha{H: s.H[:7], Buf: s.Buf, N: s.N},
			api.Sha{H: s.H, Buf: s.Buf, N: s.N + 1},
			api.Sha{H: s.H, Buf: s.Buf, N: s.N - 1},
			api.Sha{H: s.H, Buf: s.Buf, N: s.N + 32},
			api.Sha{H: s.H, Buf: noise(len(s.Buf) + 64), N: s.N},
		)
	}
	return all
}

// P4.1

func TestNew(t *testing.T) {
	s := sha.New()
	if want := fractions(8, 2); !slices.Equal(s.H, want) {
		t.Errorf("H: %08x, not %08x", s.H, want)
	}
	if len(s.Buf) != 0 || s.N != 0 {
		t.Errorf("Buf %x, N %d", s.Buf, s.N)
	}
	if !sha.Check(s) {
		t.Error("New may not be")
	}
}

func TestNewIsNew(t *testing.T) {
	a, b := sha.New(), sha.New()
	for i := range a.H {
		a.H[i] = 7
	}
	_ = append(a.Buf, 1, 2, 3)
	want := fractions(8, 2)
	if !slices.Equal(b.H, want) || !slices.Equal(sha.New().H, want) {
		t.Errorf("H of another: %08x, and behind it %08x", b.H, sha.New().H)
	}
	if hex.EncodeToString(sha.Sum(nil)[:4]) != "e3b0c442" {
		t.Errorf("Sum of nothing, behind it: %x", sha.Sum(nil))
	}
}

func TestCheck(t *testing.T) {
	for _, n := range counts() {
		if s := odd(n); !sha.Check(s) {
			t.Errorf("%d words, %d bytes, N %d may not be", len(s.H), len(s.Buf), s.N)
		}
	}
	for _, s := range []api.Sha{
		{H: make([]uint32, 8)},
		{H: make([]uint32, 8, 20), Buf: make([]byte, 0, 70), N: 64},
		{H: make([]uint32, 8), Buf: []byte{}, N: 1 << 63},
	} {
		if !sha.Check(s) {
			t.Errorf("%d words, %d bytes, N %d may not be", len(s.H), len(s.Buf), s.N)
		}
	}
	for _, s := range wrong() {
		if sha.Check(s) {
			t.Errorf("%d words, %d bytes, N %d may be", len(s.H), len(s.Buf), s.N)
		}
	}
}

// All lengths of Buf against all that N has modulo 64.
func TestCheckBufAgainstN(t *testing.T) {
	h := make([]uint32, 8)
	for size := range 140 {
		for n := range uint64(140) {
			for _, s := range []api.Sha{
				{H: h, Buf: make([]byte, size), N: n},
				{H: h, Buf: make([]byte, size), N: n + 1<<63},
			} {
				may := size < 64 && size == int(n%64)
				if sha.Check(s) != may {
					t.Errorf("%d bytes, N %d: %v", size, s.N, !may)
				}
			}
		}
	}
}

func TestWhatMayNotBeIsAnswered(t *testing.T) {
	for _, s := range wrong() {
		was := clone(s)
		for _, b := range [][]byte{nil, {}, {1}, noise(63), noise(64), noise(200)} {
			if got := sha.Write(s, b); !same(got, was) {
				t.Errorf("Write of %d words, %d bytes, N %d: %v", len(s.H), len(s.Buf), s.N, got)
			}
		}
		if got := sha.Done(s); len(got) != 0 {
			t.Errorf("Done of %d words, %d bytes, N %d: %x", len(s.H), len(s.Buf), s.N, got)
		}
		if !same(s, was) {
			t.Errorf("%v has become %v", was, s)
		}
	}
}

// P4.2

// vectors are those that FIPS 180-4's examples and others tell.
var vectors = []struct{ text, digest string }{
	{"", "e3b0c44298fc1c149afbf4c8996fb92427ae41e4649b934ca495991b7852b855"},
	{"a", "ca978112ca1bbdcafac231b39a23dc4da786eff8147c4e72b9807785afee48bb"},
	{"abc", "ba7816bf8f01cfea414140de5dae2223b00361a396177a9cb410ff61f20015ad"},
	{"\x00", "6e340b9cffb37a989ca544e6bb780a2c78901d3fb33738768511a30617afa01d"},
	{"abcdbcdecdefdefgefghfghighijhijkijkljklmklmnlmnomnopnopq", "248d6a61d20638b8e5c026930c3e6039a33ce45964ff2167f6ecedd419db06c1"},
	{"abcdefghbcdefghicdefghijdefghijkefghijklfghijklmghijklmnhijklmnoijklmnopjklmnopqklmnopqrlmnopqrsmnopqrstnopqrstu", "cf5b16a778af8380036ce59e7b0492370b249b11e8f07a51afac45037afee9d1"},
	{"The quick brown fox jumps over the lazy dog", "d7a8fbb307d7809469ca9abcb0082e4f8d5651e46d3cdb762d02d0bf37c9e592"},
	{strings.Repeat("a", 1000000), "cdc76e5c9914fb9281a1c7e284d73e67f1809a48a497200e046d39ccc7112cd0"},
}

func TestSum(t *testing.T) {
	for _, c := range vectors {
		if got := hex.EncodeToString(sha.Sum([]byte(c.text))); got != c.digest {
			t.Errorf("Sum of %d bytes: %s, not %s", len(c.text), got, c.digest)
		}
		if got := hex.EncodeToString(sha.Done(sha.Write(sha.New(), []byte(c.text)))); got != c.digest {
			t.Errorf("Done of %d bytes: %s, not %s", len(c.text), got, c.digest)
		}
	}
	if got := hex.EncodeToString(sha.Done(sha.New())); got != vectors[0].digest {
		t.Errorf("Done of New: %s", got)
	}
}

func TestSumByAnother(t *testing.T) {
	texts := [][]byte{nil, noise(1 << 20), noise(1<<20 + 1), noise(3<<20 - 9)}
	for n := range 600 {
		texts = append(texts, noise(n), make([]byte, n), bytes.Repeat([]byte{0xff}, n))
	}
	for c := range 1 << 16 {
		texts = append(texts, []byte{byte(c), byte(c >> 8)})
	}
	for _, b := range texts {
		if got, want := sha.Sum(b), sha256.Sum256(b); !bytes.Equal(got, want[:]) {
			t.Fatalf("Sum of %d bytes: %x, not %x", len(b), got, want)
		}
	}
}

// From each length of Buf on, to behind the second block's end.
func TestWriteByWords(t *testing.T) {
	for n := range uint64(64) {
		s := odd(n + 64*n)
		for size := range 200 {
			b := noise(size)
			if got, want := sha.Write(s, b), writeByWords(s, b); !same(got, want) {
				t.Fatalf("Write of %d bytes behind %d: %v, not %v", size, s.N, got, want)
			}
		}
	}
}

func TestWriteLeavesLessThanABlock(t *testing.T) {
	text := noise(400)
	for n := range len(text) {
		s := sha.Write(sha.New(), text[:n])
		if !bytes.Equal(s.Buf, text[n-n%64:n]) || s.N != uint64(n) || len(s.H) != 8 || !sha.Check(s) {
			t.Errorf("behind %d bytes: %d words, Buf %x, N %d", n, len(s.H), s.Buf, s.N)
		}
		if n < 64 && !slices.Equal(s.H, sha.New().H) {
			t.Errorf("behind %d bytes, less than a block, H: %08x", n, s.H)
		}
	}
}

func TestWriteOfNothing(t *testing.T) {
	for _, n := range counts() {
		s := odd(n)
		for _, b := range [][]byte{nil, {}} {
			if got := sha.Write(s, b); !same(got, s) {
				t.Errorf("Write of nothing behind %d: %v, not %v", n, got, s)
			}
		}
	}
}

// N goes round at 2^64.
func TestWriteGoesRound(t *testing.T) {
	for _, c := range []struct {
		n    uint64
		size int
		want uint64
	}{
		{math.MaxUint64, 0, math.MaxUint64},
		{math.MaxUint64, 1, 0},
		{math.MaxUint64, 70, 69},
		{math.MaxUint64 - 63, 64, 0},
		{math.MaxUint64 - 63, 63, math.MaxUint64},
		{math.MaxUint64 - 99, 300, 200},
		{math.MaxUint32, 1, 1 << 32},
		{math.MaxInt64, 1, 1 << 63},
		{math.MaxInt32, 1, 1 << 31},
	} {
		s, b := odd(c.n), noise(c.size)
		got := sha.Write(s, b)
		if got.N != c.want || !sha.Check(got) || !same(got, writeByWords(s, b)) {
			t.Errorf("%d bytes behind %d: %v", c.size, c.n, got)
		}
	}
}

func TestDoneByWordsAndByAnother(t *testing.T) {
	for _, n := range counts() {
		s := odd(n)
		got := sha.Done(s)
		if want := doneByWords(s); !bytes.Equal(got, want) {
			t.Errorf("Done behind %d: %x, not %x, by the words", n, got, want)
		}
		if want := another(t, s).Sum(nil); !bytes.Equal(got, want) {
			t.Errorf("Done behind %d: %x, not %x, by another", n, got, want)
		}
	}
}

// Done is Write of what the promise names, a piece after the other.
func TestDoneIsWriteOfTheEnding(t *testing.T) {
	for n := range 200 {
		s := sha.Write(sha.New(), noise(n))
		end := sha.Write(s, []byte{0x80})
		for noughts := 0; len(end.Buf) != 56; noughts++ {
			if noughts == 63 {
				t.Fatalf("63 noughts behind %d bytes leave %d", n, len(end.Buf))
			}
			end = sha.Write(end, []byte{0})
		}
		end = sha.Write(end, binary.BigEndian.AppendUint64(nil, 8*uint64(n)))
		var want []byte
		for _, x := range end.H {
			want = append(want, byte(x>>24), byte(x>>16), byte(x>>8), byte(x))
		}
		if got := sha.Done(s); len(end.Buf) != 0 || !bytes.Equal(got, want) {
			t.Errorf("Done of %d bytes: %x, not %x", n, got, want)
		}
	}
}

// A digest that was answered is not at its end: more may be written behind the same bytes.
func TestDoneLeavesADigest(t *testing.T) {
	text := noise(300)
	s := sha.New()
	for i := range text {
		was := clone(s)
		first, second := sha.Done(s), sha.Done(s)
		want := sha256.Sum256(text[:i])
		if !bytes.Equal(first, want[:]) || !bytes.Equal(second, want[:]) || !same(s, was) {
			t.Fatalf("behind %d bytes: %x, then %x, not %x", i, first, second, want)
		}
		s = sha.Write(s, text[i:i+1])
	}
}

// P4.3

func TestABlockByWordsAndByAnother(t *testing.T) {
	blocks := [][]byte{make([]byte, 64), bytes.Repeat([]byte{0xff}, 64)}
	for i := range 512 {
		b := make([]byte, 64)
		b[i/8] = 0x80 >> (i % 8)
		blocks = append(blocks, b)
	}
	for i := range 300 {
		blocks = append(blocks, noise(64 + i)[i:])
	}
	heads := []api.Sha{
		sha.New(),
		{H: make([]uint32, 8)},
		{H: slices.Repeat([]uint32{math.MaxUint32}, 8)},
		odd(64),
		odd(1 << 20),
	}
	for _, s := range heads {
		for _, b := range blocks {
			got := sha.Write(s, b)
			want := api.Sha{H: blockByWords(s.H, b), N: s.N + 64}
			if !same(got, want) {
				t.Fatalf("block %x into %08x: %08x, not %08x", b, s.H, got.H, want.H)
			}
			d := another(t, s)
			d.Write(b)
			if got, want := sha.Done(got), d.Sum(nil); !bytes.Equal(got, want) {
				t.Fatalf("block %x into %08x: %x, not %x, by another", b, s.H, got, want)
			}
		}
	}
}

// Each bit of each word of H goes into what comes out.
func TestABlockIntoEachWord(t *testing.T) {
	b := noise(64)
	for i := range 256 {
		s := api.Sha{H: make([]uint32, 8)}
		s.H[i/32] = bits.Reverse32(1 << (i % 32))
		if got, want := sha.Write(s, b).H, blockByWords(s.H, b); !slices.Equal(got, want) {
			t.Errorf("into %08x: %08x, not %08x", s.H, got, want)
		}
	}
}

// Blocks go into H from the front, one after the other.
func TestBlocksInARow(t *testing.T) {
	text := noise(10 * 64)
	h := sha.New().H
	for i := range 10 {
		h = blockByWords(h, text[64*i:64*i+64])
		if got := sha.Write(sha.New(), text[:64*i+64]); !slices.Equal(got.H, h) {
			t.Fatalf("%d blocks: %08x, not %08x", i+1, got.H, h)
		}
	}
}

// P4.4

func TestWhereATextIsParted(t *testing.T) {
	for _, n := range []int{0, 1, 55, 56, 63, 64, 65, 127, 128, 129, 200, 300} {
		text := noise(n)
		whole := sha.Write(sha.New(), text)
		want := sha256.Sum256(text)
		for i := range n + 1 {
			s := sha.Write(sha.Write(sha.New(), text[:i]), text[i:])
			if !same(s, whole) || !bytes.Equal(sha.Done(s), want[:]) {
				t.Fatalf("%d bytes, parted at %d: %v, not %v", n, i, s, whole)
			}
		}
	}
}

func TestThreePieces(t *testing.T) {
	text := noise(150)
	whole := sha.Write(sha.New(), text)
	for i := range len(text) + 1 {
		for j := i; j <= len(text); j++ {
			s := sha.Write(sha.Write(sha.Write(sha.New(), text[:i]), text[i:j]), text[j:])
			if !same(s, whole) {
				t.Fatalf("parted at %d and %d: %v, not %v", i, j, s, whole)
			}
		}
	}
}

func TestPiecesOfEachSize(t *testing.T) {
	text := noise(5000)
	whole := sha.Write(sha.New(), text)
	want := sha256.Sum256(text)
	for size := 1; size < 300; size++ {
		s := sha.New()
		for piece := range slices.Chunk(text, size) {
			s = sha.Write(s, piece)
		}
		if !same(s, whole) || !bytes.Equal(sha.Done(s), want[:]) {
			t.Fatalf("pieces of %d: %v, not %v", size, s, whole)
		}
	}
}

func TestPiecesBehindAnyDigest(t *testing.T) {
	chance := rand.New(rand.NewSource(4))
	for _, n := range counts() {
		s, b := odd(n), noise(int(n%400))
		i := chance.Intn(len(b) + 1)
		if got, want := sha.Write(sha.Write(s, b[:i]), b[i:]), sha.Write(s, b); !same(got, want) {
			t.Errorf("%d bytes behind %d, parted at %d: %v, not %v", len(b), n, i, got, want)
		}
	}
}

// The rules that hold everywhere.

func TestArgumentsStay(t *testing.T) {
	for n := range uint64(130) {
		for _, size := range []int{0, 1, 30, 63, 64, 65, 128, 200} {
			s, b := odd(n), noise(size)
			was, text := clone(s), slices.Clone(b)
			sha.Check(s)
			sha.Write(s, b)
			sha.Done(s)
			sha.Sum(b)
			if !same(s, was) || !bytes.Equal(b, text) {
				t.Fatalf("%v and %x have become %v and %x", was, text, s, b)
			}
		}
	}
}

// What stands behind the end of an argument is nobody's, even where there is room.
func TestRoomBehindTheEndIsNobodys(t *testing.T) {
	for n := range uint64(64) {
		s := odd(n)
		buf := slices.Concat(s.Buf, noise(200))
		h := slices.Concat(s.H, []uint32{1, 2, 3, 4})
		text := noise(300)
		room := api.Sha{H: h[:8], Buf: buf[:n], N: n}
		h, buf, text = slices.Clone(h), slices.Clone(buf), slices.Clone(text)
		for _, size := range []int{0, 1, 64, 150} {
			long := noise(300)
			if got, want := sha.Write(room, long[:size]), writeByWords(s, text[:size]); !same(got, want) {
				t.Fatalf("Write of %d bytes behind %d: %v, not %v", size, n, got, want)
			}
			if got, want := sha.Sum(long[:size]), sha256.Sum256(text[:size]); !bytes.Equal(got, want[:]) {
				t.Fatalf("Sum of %d bytes: %x, not %x", size, got, want)
			}
			if !bytes.Equal(long, text) {
				t.Fatalf("changed behind %d bytes: %x", size, long)
			}
		}
		if got, want := sha.Done(room), doneByWords(s); !bytes.Equal(got, want) {
			t.Fatalf("Done behind %d: %x, not %x", n, got, want)
		}
		if !slices.Equal(room.H[:12], h) || !bytes.Equal(room.Buf[:cap(room.Buf)][:len(buf)], buf) {
			t.Fatalf("changed behind the end of a digest of %d bytes", n)
		}
	}
}

// spoil alters all of a digest, and all room behind its lists.
func spoil(s api.Sha) {
	h, buf := s.H[:cap(s.H)], s.Buf[:cap(s.Buf)]
	for i := range h {
		h[i] ^= 0x55555555
	}
	for i := range buf {
		buf[i] ^= 0x55
	}
}

// shares tells whether Write's answer and its arguments have memory in common.
func shares(s api.Sha, b []byte) bool {
	got := sha.Write(s, b)
	want, was, text := clone(got), clone(s), slices.Clone(b)
	spoil(got)
	if !same(s, was) || !bytes.Equal(b, text) {
		return true
	}
	got = sha.Write(s, b)
	spoil(s)
	for i := range b {
		b[i] ^= 0x55
	}
	return !same(got, want)
}

func TestMemoryIsNew(t *testing.T) {
	for n := range uint64(130) {
		for _, size := range []int{0, 1, 5, 63, 64, 65, 128, 131} {
			if shares(odd(n), noise(size)) {
				t.Errorf("Write of %d bytes behind %d shares memory", size, n)
			}
			s := odd(n)
			s.Buf = slices.Grow(s.Buf, 200)
			if shares(s, noise(size)) {
				t.Errorf("Write of %d bytes behind %d, with room, shares memory", size, n)
			}
		}
	}
	for _, s := range wrong() {
		for _, size := range []int{0, 1, 64} {
			if shares(clone(s), noise(size)) {
				t.Errorf("Write of %d words, %d bytes, N %d shares memory", len(s.H), len(s.Buf), s.N)
			}
		}
	}
}

func TestAnswersAreNew(t *testing.T) {
	for _, b := range [][]byte{nil, []byte("abc"), noise(100)} {
		want := sha256.Sum256(b)
		s := sha.Write(sha.New(), b)
		for _, call := range []func() []byte{
			func() []byte { return sha.Sum(b) },
			func() []byte { return sha.Done(s) },
		} {
			first, other := call(), call()
			clear(first[:cap(first)])
			if !bytes.Equal(other, want[:]) || !bytes.Equal(call(), want[:]) {
				t.Errorf("of %x: %x, then %x, not %x", b, other, call(), want)
			}
		}
	}
}

// Digests know nothing of one another, and two may go on from the same one.
func TestDigestsApart(t *testing.T) {
	a, b := noise(500), noise(501)
	x, y := sha.New(), sha.New()
	for i := range a {
		x = sha.Write(x, a[i:i+1])
		y = sha.Write(y, b[i:i+1])
	}
	wantA, wantB := sha256.Sum256(a), sha256.Sum256(b[:500])
	if !bytes.Equal(sha.Done(x), wantA[:]) || !bytes.Equal(sha.Done(y), wantB[:]) {
		t.Error("digests that go on by turns are mixed up")
	}
	for i := range a {
		s := sha.Write(sha.New(), a[:i])
		x, y := sha.Write(s, a[i:]), sha.Write(s, b)
		wantB := sha256.Sum256(slices.Concat(a[:i], b))
		if !bytes.Equal(sha.Done(x), wantA[:]) || !bytes.Equal(sha.Done(y), wantB[:]) {
			t.Fatalf("digests that go on from one of %d bytes are mixed up", i)
		}
	}
}
