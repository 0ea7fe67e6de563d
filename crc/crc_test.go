package crc_test

import (
	"bytes"
	"encoding/binary"
	"hash/crc32"
	"math"
	"math/bits"
	"math/rand"
	"slices"
	"testing"

	"palimpsest/crc"
)

// low answers a number's four bytes, the lowest first.
func low(sum uint32) []byte {
	return binary.LittleEndian.AppendUint32(nil, sum)
}

// noise answers n bytes without order, the same ones each time.
func noise(n int) []byte {
	b := make([]byte, n)
	rand.New(rand.NewSource(int64(n))).Read(b)
	return b
}

// samples answers all texts of at most two bytes, and some of every length up to where tables and words would matter.
func samples() [][]byte {
	var all [][]byte
	for c := range 1 << 8 {
		all = append(all, []byte{byte(c)})
	}
	for c := range 1 << 16 {
		all = append(all, []byte{byte(c >> 8), byte(c)})
	}
	for n := range 300 {
		all = append(all, noise(n), make([]byte, n), bytes.Repeat([]byte{0xff}, n))
	}
	return all
}

// byWords is Sum as the promise's words have it, a bit after the other.
func byWords(b []byte) uint32 {
	rest := uint32(0xffffffff)
	for _, c := range b {
		rest ^= uint32(c)
		for step := 0; step < 8; step++ {
			out := rest % 2
			rest /= 2
			if out == 1 {
				rest ^= 0xedb88320
			}
		}
	}
	return 0xffffffff - rest
}

// P3.1

func TestSum(t *testing.T) {
	for _, c := range []struct {
		b   []byte
		sum uint32
	}{
		{nil, 0},
		{[]byte{}, 0},
		{[]byte("123456789"), 0xcbf43926},
		{[]byte("a"), 0xe8b7be43},
		{[]byte("abc"), 0x352441c2},
		{[]byte("The quick brown fox jumps over the lazy dog"), 0x414fa339},
		{[]byte{0}, 0xd202ef8d},
		{[]byte{0xff}, 0xff000000},
		{make([]byte, 4), 0x2144df1c},
		{bytes.Repeat([]byte{0xff}, 4), 0xffffffff},
		{make([]byte, 32), 0x190a55ad},
		{bytes.Repeat([]byte{0xff}, 32), 0xff6cab0b},
	} {
		if sum := crc.Sum(c.b); sum != c.sum {
			t.Errorf("Sum(%x): %08x, not %08x", c.b, sum, c.sum)
		}
	}
}

func TestSumByWordsAndByAnother(t *testing.T) {
	for _, b := range append(samples(), noise(8192), noise(1<<20+3)) {
		sum := crc.Sum(b)
		if want := byWords(b); sum != want {
			t.Fatalf("Sum of %d bytes: %08x, not %08x, by the words", len(b), sum, want)
		}
		if want := crc32.ChecksumIEEE(b); sum != want {
			t.Fatalf("Sum of %d bytes: %08x, not %08x, by another", len(b), sum, want)
		}
	}
}

func TestMore(t *testing.T) {
	for _, c := range []struct {
		sum  uint32
		b    []byte
		want uint32
	}{
		{0, nil, 0},
		{0, []byte("123456789"), 0xcbf43926},
		{0xcbf43926, nil, 0xcbf43926},
		{0xcbf43926, []byte{}, 0xcbf43926},
		{0xe8b7be43, []byte("bc"), 0x352441c2},
		{math.MaxUint32, nil, math.MaxUint32},
		// Turned back this sum leaves nothing that could go out.
		{0xffffffff, []byte{0}, 0xffffffff},
		{0xffffffff, []byte{0x80}, ^uint32(0xedb88320)},
		{0xffffffff, []byte{0x40}, ^uint32(0xedb88320 >> 1)},
	} {
		if sum := crc.More(c.sum, c.b); sum != c.want {
			t.Errorf("More(%08x, %x): %08x, not %08x", c.sum, c.b, sum, c.want)
		}
	}
}

func TestMoreWhereverATextIsParted(t *testing.T) {
	for _, b := range [][]byte{[]byte("123456789"), make([]byte, 40), noise(300)} {
		want := crc.Sum(b)
		for i := range len(b) + 1 {
			if sum := crc.More(crc.Sum(b[:i]), b[i:]); sum != want {
				t.Errorf("%x, parted at %d: %08x, not %08x", b, i, sum, want)
			}
		}
		sum := uint32(0)
		for i := range b {
			sum = crc.More(sum, b[i:i+1])
		}
		if sum != want {
			t.Errorf("%x, a byte after the other: %08x, not %08x", b, sum, want)
		}
	}
}

// Every number is the sum of a text, so that More goes on with any.
func TestMoreOfAnySum(t *testing.T) {
	sums := []uint32{0, 1, 0x80000000, 0xedb88320, math.MaxUint32}
	for i := range 32 {
		sums = append(sums, 1<<i, math.MaxUint32<<i, 0x5a5a5a5a>>i)
	}
	for _, sum := range sums {
		for _, b := range [][]byte{nil, {0}, {1}, {0x80}, {0xff}, {0, 0x80, 1}, noise(4), noise(50)} {
			if got, want := crc.More(sum, b), crc32.Update(sum, crc32.IEEETable, b); got != want {
				t.Fatalf("More(%08x, %x): %08x, not %08x", sum, b, got, want)
			}
		}
	}
}

func TestBytes(t *testing.T) {
	for _, c := range []struct{ b, want []byte }{
		{nil, []byte{0, 0, 0, 0}},
		{[]byte{}, []byte{0, 0, 0, 0}},
		{[]byte("123456789"), slices.Concat([]byte("123456789"), []byte{0x26, 0x39, 0xf4, 0xcb})},
		{[]byte{0}, []byte{0, 0x8d, 0xef, 0x02, 0xd2}},
		{[]byte{0xff}, []byte{0xff, 0, 0, 0, 0xff}},
	} {
		if b := crc.Bytes(c.b); !bytes.Equal(b, c.want) {
			t.Errorf("Bytes(%x): %x, not %x", c.b, b, c.want)
		}
	}
}

func TestBytesByAnother(t *testing.T) {
	for _, b := range append(samples(), noise(8192)) {
		if got, want := crc.Bytes(b), slices.Concat(b, low(crc32.ChecksumIEEE(b))); !bytes.Equal(got, want) {
			t.Fatalf("Bytes(%x): %x, not %x", b, got, want)
		}
	}
}

func TestRight(t *testing.T) {
	for _, c := range []struct {
		b     []byte
		right bool
	}{
		{[]byte{0, 0, 0, 0}, true}, // no bytes, and their sum
		{[]byte{0, 0x8d, 0xef, 0x02, 0xd2}, true},
		{slices.Concat([]byte("123456789"), []byte{0x26, 0x39, 0xf4, 0xcb}), true},
		// Too few bytes for a sum.
		{nil, false},
		{[]byte{}, false},
		{[]byte{0}, false},
		{[]byte{0, 0}, false},
		{[]byte{0, 0, 0}, false},
		// Another sum.
		{[]byte{1, 0, 0, 0}, false},
		{[]byte{0, 0, 0, 1}, false},
		{[]byte{0xff, 0xff, 0xff, 0xff}, false},
		{[]byte{0, 0, 0, 0, 0}, false},
		{[]byte("123456789"), false},
		// The sum's bytes the other way round, ahead of the text, not turned, or not at the end.
		{slices.Concat([]byte("123456789"), []byte{0xcb, 0xf4, 0x39, 0x26}), false},
		{slices.Concat([]byte{0x26, 0x39, 0xf4, 0xcb}, []byte("123456789")), false},
		{slices.Concat([]byte("123456789"), low(^uint32(0xcbf43926))), false},
		{slices.Concat([]byte("123456789"), []byte{0x26, 0x39, 0xf4, 0xcb, 0}), false},
		{slices.Concat([]byte("123456789"), []byte{0x26, 0x39, 0xf4}), false},
		{slices.Concat([]byte("12345678"), []byte{0x26, 0x39, 0xf4, 0xcb}), false},
	} {
		if right := crc.Right(c.b); right != c.right {
			t.Errorf("Right(%x): %v", c.b, right)
		}
	}
}

func TestRightByWords(t *testing.T) {
	var all [][]byte
	for _, b := range samples() {
		all = append(all, b, crc.Bytes(b), crc.Bytes(crc.Bytes(b)), slices.Concat(crc.Bytes(b), []byte{0}))
	}
	for _, b := range all {
		want := len(b) >= 4 && bytes.Equal(b, crc.Bytes(b[:len(b)-4]))
		if right := crc.Right(b); right != want {
			t.Fatalf("Right(%x): %v", b, right)
		}
	}
}

// What stands behind the end of an argument is nobody's, even where there is room.
func TestRoomBehindTheEndIsNobodys(t *testing.T) {
	long := slices.Concat([]byte("123456789"), []byte{0x26, 0x39, 0xf4, 0xcb}, []byte("more"))
	was := slices.Clone(long)
	if sum := crc.Sum(long[:9]); sum != 0xcbf43926 {
		t.Errorf("Sum: %08x", sum)
	}
	if b := crc.Bytes(long[:8]); !bytes.Equal(b, slices.Concat([]byte("12345678"), low(crc32.ChecksumIEEE([]byte("12345678"))))) {
		t.Errorf("Bytes: %x", b)
	}
	if !crc.Right(long[:13]) || crc.Right(long[:12]) || crc.Right(long[:14]) || crc.Right(long[:3]) {
		t.Error("Right looks behind the end")
	}
	if !bytes.Equal(long, was) {
		t.Errorf("changed: %x", long)
	}
}

func TestMemoryIsNew(t *testing.T) {
	in := make([]byte, 2, 20)
	copy(in, "ab")
	out := crc.Bytes(in)
	want := slices.Concat([]byte("ab"), low(crc32.ChecksumIEEE([]byte("ab"))))
	in[0] = 'x'
	if !bytes.Equal(out, want) {
		t.Errorf("Bytes's argument is in its answer: %x", out)
	}
	out[1] = 'y'
	out = append(out, "more"...)
	if string(in) != "xb" || !bytes.Equal(in[:20][2:], make([]byte, 18)) {
		t.Errorf("Bytes's answer is in its argument: %x", in[:20])
	}
	crc.Bytes(nil)[0] = 9
	if b := crc.Bytes(nil); !bytes.Equal(b, make([]byte, 4)) {
		t.Errorf("Bytes(nil): %x", b)
	}
}

func TestArgumentsStay(t *testing.T) {
	for _, b := range [][]byte{noise(3), noise(4), noise(100), crc.Bytes(noise(100))} {
		was := slices.Clone(b)
		crc.Sum(b)
		crc.More(7, b)
		crc.Bytes(b)
		crc.Right(b)
		if !bytes.Equal(b, was) {
			t.Errorf("%x has become %x", was, b)
		}
	}
}

// P3.2

func TestBytesAreRight(t *testing.T) {
	for _, b := range append(samples(), noise(8192), noise(1<<20)) {
		if !crc.Right(crc.Bytes(b)) {
			t.Fatalf("Bytes(%x) are not right", b)
		}
	}
}

func TestATurnedBitIsNotRight(t *testing.T) {
	for _, b := range [][]byte{nil, {0}, {0xff}, {1, 0x80}, noise(64), noise(300), make([]byte, 600)} {
		b = crc.Bytes(b)
		for i := range 8 * len(b) {
			b[i/8] ^= 1 << (i % 8)
			if crc.Right(b) {
				t.Fatalf("%x is right, with bit %d turned", b, i)
			}
			b[i/8] ^= 1 << (i % 8)
		}
		if !crc.Right(b) {
			t.Fatalf("%x is not right any more", b)
		}
	}
}

// turn turns the bits of a burst, the lowest first, from bit at of b on.
func turn(b []byte, at int, burst uint32) {
	for ; burst != 0; burst &= burst - 1 {
		i := at + bits.TrailingZeros32(burst)
		b[i/8] ^= 1 << (i % 8)
	}
}

// bursts answers patterns that begin with a turned bit: all short ones, and of each length up to 32 bits some.
func bursts() []uint32 {
	var all []uint32
	for p := uint32(1); p < 1<<10; p += 2 {
		all = append(all, p)
	}
	chance := rand.New(rand.NewSource(32))
	for n := 10; n < 32; n++ {
		ends := uint32(1) | 1<<n
		all = append(all, ends, ends|(1<<n-1), ends|0xaaaaaaaa&(1<<n-1), ends|0x55555555&(1<<n-1))
		for range 20 {
			all = append(all, ends|chance.Uint32()&(1<<n-1))
		}
	}
	// Bits of the pattern that the sum is made with, either way round: the whole of it, 33 bits, would not be told.
	return append(all, 0xedb88320>>5, 0xedb88320|1, 0x04c11db7, bits.Reverse32(0xedb88320|1))
}

func TestABurstIsNotRight(t *testing.T) {
	patterns := bursts()
	for _, b := range [][]byte{nil, {0}, []byte("123456789"), noise(40)} {
		b = crc.Bytes(b)
		for _, p := range patterns {
			for at := 0; at+bits.Len32(p) <= 8*len(b); at++ {
				turn(b, at, p)
				if crc.Right(b) {
					t.Fatalf("%x is right, with %08x turned from bit %d on", b, p, at)
				}
				turn(b, at, p)
			}
		}
	}
}
