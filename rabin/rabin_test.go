package rabin_test

import (
	"bytes"
	"math"
	"math/big"
	"math/rand"
	"slices"
	"sync"
	"testing"

	"palimpsest/rabin"
)

// most is the greatest number that may be left.
const most = 1<<31 - 1

// divisor is that of the promise's words: x^31 + x^3 + 1.
var divisor = polynomial(31, 3, 0)

// noise answers n bytes without order, the same ones each time.
func noise(n int) []byte {
	b := make([]byte, n)
	rand.New(rand.NewSource(int64(n))).Read(b)
	return b
}

// polynomial answers the sum of powers of x.
func polynomial(powers ...int) *big.Int {
	p := new(big.Int)
	for _, i := range powers {
		p.SetBit(p, i, 1)
	}
	return p
}

// number answers a number's polynomial.
func number(x uint64) *big.Int { return new(big.Int).SetUint64(x) }

// times answers a polynomial times x^n.
func times(p *big.Int, n int) *big.Int { return new(big.Int).Lsh(p, uint(n)) }

// sum answers two polynomials put together.
func sum(p *big.Int, q *big.Int) *big.Int { return new(big.Int).Xor(p, q) }

// product answers two polynomials, one times the other.
func product(p *big.Int, q *big.Int) *big.Int {
	all := new(big.Int)
	for i := range q.BitLen() {
		if q.Bit(i) == 1 {
			all = sum(all, times(p, i))
		}
	}
	return all
}

// left answers what is left of a polynomial of any length, divided by the divisor on paper.
func left(p *big.Int) uint64 {
	for p.BitLen() >= divisor.BitLen() {
		p = sum(p, times(divisor, p.BitLen()-divisor.BitLen()))
	}
	return p.Uint64()
}

// windowByWords answers what is left of all bytes as one polynomial, the last byte's bits the lowest.
func windowByWords(b []byte) uint64 { return left(new(big.Int).SetBytes(b)) }

// numbers answers ordinary ones, and those at the edges of bytes, of the divisor, of 64 bits.
func numbers() []uint64 {
	all := []uint64{0, math.MaxUint64, most, 0x80000009, 0x80000008, 0x8000000a, 0x89, 0x12345678}
	for i := range 64 {
		bit := uint64(1) << i
		all = append(all, bit, bit-1, bit+1, ^bit, -bit, bit|0x80000009, bit^0x80000009)
		if i < 33 {
			all = append(all, 0x80000009<<i, ^(uint64(0x80000009) << i))
		}
	}
	chance := rand.New(rand.NewSource(5))
	for i := range 2000 {
		all = append(all, chance.Uint64()>>(i%64))
	}
	return all
}

// P5.1: Mod

func TestModOfWhatTheChapterTells(t *testing.T) {
	for _, c := range []struct{ x, want uint64 }{
		{0x80000000, 9},
		{0x80000009, 0},
		{0, 0},
		{1, 1},
		{9, 9},
		{most, most},
		{0x80000001, 8},
		{0xffffffff, 0x7ffffff6},
		{0x100000012, 0},
		{0x100000000, 0x12},
		{0x8000000900000000, 0},
		{1 << 62, 0x41}, // (x^3 + 1)^2
		{1 << 63, 0x82},
	} {
		if got := rabin.Mod(c.x); got != c.want {
			t.Errorf("Mod(%#x): %#x, not %#x", c.x, got, c.want)
		}
	}
}

func TestModByPaper(t *testing.T) {
	for _, x := range numbers() {
		if got, want := rabin.Mod(x), left(number(x)); got != want {
			t.Errorf("Mod(%#x): %#x, not %#x", x, got, want)
		}
	}
}

// What is below 2^31 is its own rest, and no rest is greater.
func TestModIsBelowTheDivisor(t *testing.T) {
	for _, x := range numbers() {
		got := rabin.Mod(x)
		if got > most {
			t.Errorf("Mod(%#x): %#x, above %#x", x, got, most)
		}
		if x <= most && got != x {
			t.Errorf("Mod(%#x): %#x", x, got)
		}
		if again := rabin.Mod(got); again != got {
			t.Errorf("Mod of Mod(%#x): %#x, not %#x", x, again, got)
		}
	}
}

// Numbers that the divisor times one number apart are left alike.
func TestModPutsTimesOfTheDivisorAway(t *testing.T) {
	chance := rand.New(rand.NewSource(6))
	for _, x := range numbers() {
		by := chance.Uint64() >> (31 + chance.Intn(33))
		multiple := product(divisor, number(by)).Uint64()
		if got := rabin.Mod(multiple); got != 0 {
			t.Errorf("Mod(%#x), of the divisor times %#x: %#x", multiple, by, got)
		}
		if got, want := rabin.Mod(x^multiple), rabin.Mod(x); got != want {
			t.Errorf("Mod(%#x): %#x, not %#x", x^multiple, got, want)
		}
	}
}

func TestModIsLinear(t *testing.T) {
	all := numbers()
	for i, x := range all {
		y := all[len(all)-1-i]
		if got, want := rabin.Mod(x^y), rabin.Mod(x)^rabin.Mod(y); got != want {
			t.Errorf("Mod(%#x) and Mod(%#x) put together: %#x, not %#x", x, y, want, got)
		}
	}
}

// P5.1: Push

func TestPushByPaper(t *testing.T) {
	for i, f := range numbers() {
		for _, b := range []byte{0, 1, 0x7f, 0x80, 0xff, byte(i)} {
			want := left(sum(times(number(f), 8), number(uint64(b))))
			if got := rabin.Push(f, b); got != want {
				t.Errorf("Push(%#x, %#x): %#x, not %#x", f, b, got, want)
			}
		}
	}
}

func TestPushOfEachByte(t *testing.T) {
	for _, f := range []uint64{0, 1, 0x7f, 0x80, 1 << 22, 1 << 23, 1 << 30, most, 1 << 31, 1 << 55, 1 << 56, 1 << 63, math.MaxUint64} {
		for b := range 256 {
			want := left(sum(times(number(f), 8), number(uint64(b))))
			if got := rabin.Push(f, byte(b)); got != want {
				t.Errorf("Push(%#x, %#x): %#x, not %#x", f, b, got, want)
			}
		}
	}
}

// A number that was not divided yet is pushed as what is left of it: its highest bits count.
func TestPushDividesFirst(t *testing.T) {
	for _, f := range numbers() {
		for _, b := range []byte{0, 1, 0xa5, 0xff} {
			if got, want := rabin.Push(f, b), rabin.Push(rabin.Mod(f), b); got != want {
				t.Errorf("Push(%#x, %#x): %#x, not %#x", f, b, got, want)
			}
		}
	}
	if got := rabin.Push(1<<63, 0); got != 0x8200 {
		t.Errorf("Push(1<<63, 0): %#x", got)
	}
	if got := rabin.Push(0x80000009, 7); got != 7 {
		t.Errorf("Push of the divisor: %#x", got)
	}
}

// P5.1: Window

func TestWindowOfWhatTheChapterTells(t *testing.T) {
	for _, c := range []struct {
		b    []byte
		want uint64
	}{
		{nil, 0},
		{[]byte{}, 0},
		{[]byte{0}, 0},
		{[]byte{1}, 1},
		{[]byte{0xff}, 0xff},
		{[]byte{1, 0}, 0x100},
		{[]byte{0, 1}, 1},
		{[]byte{0, 0, 1, 0}, 0x100},
		{[]byte{1, 2, 3}, 0x10203},
		{[]byte{0x7f, 0xff, 0xff, 0xff}, most},
		{[]byte{0x80, 0, 0, 0}, 9},
		{[]byte{0x80, 0, 0, 9}, 0},
		{[]byte{0x80, 0, 0, 0, 0}, 0x900},
		{make([]byte, 1000), 0},
	} {
		if got := rabin.Window(c.b); got != c.want {
			t.Errorf("Window(% x): %#x, not %#x", c.b, got, c.want)
		}
	}
}

// texts answers ordinary ones of each length up to 100, and long ones.
func texts() [][]byte {
	var all [][]byte
	for n := range 101 {
		all = append(all, noise(n), make([]byte, n), bytes.Repeat([]byte{0xff}, n), bytes.Repeat([]byte{0x80}, n))
	}
	for _, n := range []int{255, 256, 257, 511, 2048, 5000} {
		all = append(all, noise(n), bytes.Repeat([]byte{0xff}, n))
	}
	return all
}

func TestWindowByPaper(t *testing.T) {
	for _, b := range texts() {
		if got, want := rabin.Window(b), windowByWords(b); got != want {
			t.Errorf("Window of %d bytes (% x ..): %#x, not %#x", len(b), b[:min(8, len(b))], got, want)
		}
	}
}

func TestWindowIsPushOfEach(t *testing.T) {
	for _, b := range texts() {
		f := uint64(0)
		for i, c := range b {
			f = rabin.Push(f, c)
			if i < 200 && f != rabin.Window(b[:i+1]) {
				t.Fatalf("Window of %d bytes: %#x, not %#x", i+1, rabin.Window(b[:i+1]), f)
			}
		}
		if got := rabin.Window(b); got != f {
			t.Errorf("Window of %d bytes: %#x, not %#x", len(b), got, f)
		}
	}
}

// Each byte that a shift can carry over the divisor's degree, and each bit of a window, wherever it stands.
func TestWindowOfEachByteAndBit(t *testing.T) {
	for c := range 256 {
		for behind := range 40 {
			b := make([]byte, 1+behind)
			b[0] = byte(c)
			if got, want := rabin.Window(b), windowByWords(b); got != want {
				t.Errorf("Window of %#x and %d noughts: %#x, not %#x", c, behind, got, want)
			}
		}
	}
	for i := range 8 * 40 {
		b := make([]byte, 40)
		b[i/8] = 0x80 >> (i % 8)
		if got, want := rabin.Window(b), windowByWords(b); got != want {
			t.Errorf("Window of bit %d: %#x, not %#x", i, got, want)
		}
	}
}

// Bytes that are noughts ahead of all others are as though they were not there; behind others they count.
func TestNoughtsInAWindow(t *testing.T) {
	for n := range 50 {
		b := noise(n + 1)
		b[0] = 1
		for noughts := range 20 {
			some := make([]byte, noughts)
			if got, want := rabin.Window(slices.Concat(some, b)), rabin.Window(b); got != want {
				t.Fatalf("%d noughts ahead of %d bytes: %#x, not %#x", noughts, len(b), got, want)
			}
			behind := slices.Concat(b, some)
			if got, want := rabin.Window(behind), windowByWords(behind); got != want {
				t.Fatalf("%d noughts behind %d bytes: %#x, not %#x", noughts, len(b), got, want)
			}
		}
	}
}

func TestALongWindow(t *testing.T) {
	b := noise(1 << 22)
	f := uint64(0)
	for _, c := range b {
		f = rabin.Push(f, c)
	}
	if got := rabin.Window(b); got != f || got > most {
		t.Errorf("Window of %d bytes: %#x, not %#x", len(b), got, f)
	}
}

// P5.2

// rollByWords answers Push of f, with what is left of out times x^128 put away.
func rollByWords(f uint64, out byte, in byte) uint64 {
	pushed := left(sum(times(number(f), 8), number(uint64(in))))
	return pushed ^ left(times(number(uint64(out)), 128))
}

func TestRollByPaper(t *testing.T) {
	for i, f := range numbers() {
		for _, out := range []byte{0, 1, 0x80, 0xff, byte(i), byte(i >> 8)} {
			for _, in := range []byte{0, 1, 0x80, 0xff, byte(3 * i)} {
				if got, want := rabin.Roll(f, out, in), rollByWords(f, out, in); got != want {
					t.Fatalf("Roll(%#x, %#x, %#x): %#x, not %#x", f, out, in, got, want)
				}
			}
		}
	}
}

// All bytes that go, against all that come.
func TestRollOfEachTwoBytes(t *testing.T) {
	for _, f := range []uint64{0, most, 0x12345678, math.MaxUint64} {
		for out := range 256 {
			away := left(times(number(uint64(out)), 128))
			for in := range 256 {
				want := rabin.Push(f, byte(in)) ^ away
				if got := rabin.Roll(f, byte(out), byte(in)); got != want {
					t.Fatalf("Roll(%#x, %#x, %#x): %#x, not %#x", f, out, in, got, want)
				}
			}
		}
	}
}

// Which of both bytes goes and which comes matters.
func TestRollOfOneByte(t *testing.T) {
	for _, c := range []struct {
		f       uint64
		out, in byte
		want    uint64
	}{
		{0, 0, 0, 0},
		{0, 0, 1, 1},
		{0, 1, 0, 0x10010}, // x^128 is x^4 times (x^3 + 1)^4
		{0, 0x80, 0, 0x800800},
		{0, 1, 1, 0x10011},
		{1, 0, 0, 0x100},
		{1 << 30, 0, 0, 9 << 7},
		{1 << 31, 0, 0, 9 << 8},
		{0x10010, 1, 0, 0x1011010},
	} {
		if got := rabin.Roll(c.f, c.out, c.in); got != c.want {
			t.Errorf("Roll(%#x, %#x, %#x): %#x, not %#x", c.f, c.out, c.in, got, c.want)
		}
	}
}

// A number of 2^31 or more, which no window has, is rolled as what is left of it.
func TestRollDividesFirst(t *testing.T) {
	for _, f := range numbers() {
		got, want := rabin.Roll(f, 0x5a, 0xc3), rabin.Roll(rabin.Mod(f), 0x5a, 0xc3)
		if got != want || got > most {
			t.Errorf("Roll of %#x: %#x, not %#x", f, got, want)
		}
	}
}

// P5.3

func TestRollGoesOneOn(t *testing.T) {
	for _, b := range [][]byte{
		noise(5000),
		make([]byte, 100),
		bytes.Repeat([]byte{0xff}, 100),
		bytes.Repeat([]byte("abcdefghijklmnopq"), 20),
		slices.Concat(make([]byte, 40), noise(40), make([]byte, 40)),
		noise(17),
	} {
		f := rabin.Window(b[:16])
		for i := range len(b) - 16 {
			f = rabin.Roll(f, b[i], b[i+16])
			if want := rabin.Window(b[i+1 : i+17]); f != want {
				t.Fatalf("%d bytes on in %d: %#x, not %#x", i+1, len(b), f, want)
			}
		}
	}
}

// Just windows of 16 bytes are rolled so.
func TestRollOfOtherWindows(t *testing.T) {
	for _, size := range []int{1, 8, 15, 17, 32} {
		b := noise(size + 1)
		b[0] |= 1
		got := rabin.Roll(rabin.Window(b[:size]), b[0], b[size])
		if got == rabin.Window(b[1:]) {
			t.Errorf("a window of %d bytes is rolled like one of 16", size)
		}
	}
}

func TestWindowIsLinear(t *testing.T) {
	for n := range 300 {
		a, b := noise(n), noise(n + 1000)[:n]
		both := make([]byte, n)
		for i := range both {
			both[i] = a[i] ^ b[i]
		}
		if got, want := rabin.Window(both), rabin.Window(a)^rabin.Window(b); got != want {
			t.Errorf("Window of two rows of %d bytes put together: %#x, not %#x", n, got, want)
		}
		if got := rabin.Window(make([]byte, n)); got != 0 {
			t.Errorf("Window of %d noughts: %#x", n, got)
		}
	}
}

// The rules that hold everywhere.

// What is handed in stays, and what stands behind its end is nobody's.
func TestArgumentsStay(t *testing.T) {
	for n := range 70 {
		all := noise(n + 50)
		was := slices.Clone(all)
		if got, want := rabin.Window(all[:n]), windowByWords(was[:n]); got != want {
			t.Errorf("Window of %d bytes with room behind them: %#x, not %#x", n, got, want)
		}
		if !bytes.Equal(all, was) {
			t.Fatalf("% x has become % x", was, all)
		}
	}
}

// Answers hang on nothing but the arguments, whoever else calls.
func TestCallsKnowNothingOfOneAnother(t *testing.T) {
	b := noise(2000)
	want := windowByWords(b)
	var all sync.WaitGroup
	for range 8 {
		all.Go(func() {
			for i := range 50 {
				rabin.Roll(uint64(i)<<40, byte(i), byte(2*i))
				rabin.Push(^uint64(i), byte(i))
				rabin.Window(b[:i])
				if got := rabin.Window(b); got != want {
					t.Errorf("Window among other calls: %#x, not %#x", got, want)
				}
			}
		})
	}
	all.Wait()
}
