package leb_test

import (
	"bytes"
	"encoding/binary"
	"math"
	"math/big"
	"slices"
	"testing"

	"palimpsest/api"
	"palimpsest/leb"
)

// join answers pieces in a row, as new memory.
func join(pieces ...[]byte) []byte {
	return slices.Concat(pieces...)
}

// run answers a byte n times.
func run(n int, c byte) []byte {
	return bytes.Repeat([]byte{c}, n)
}

// numbers answers numbers of every length, those at each border of bits among them, by rising ones.
func numbers() []uint64 {
	all := []uint64{0, 300, math.MaxInt64, math.MaxUint64}
	for i := range 64 {
		all = append(all, 1<<i-1, 1<<i, 1<<i+1, 0x5a5a5a5a5a5a5a5a>>i, math.MaxUint64<<i)
	}
	slices.Sort(all)
	return slices.Compact(all)
}

// texts answers all rows of at most n of the given bytes.
func texts(n int, of ...byte) [][]byte {
	all := [][]byte{nil}
	last := all
	for range n {
		var longer [][]byte
		for _, b := range last {
			for _, c := range of {
				longer = append(longer, join(b, []byte{c}))
			}
		}
		all = append(all, longer...)
		last = longer
	}
	return all
}

// P2.1

func TestPut(t *testing.T) {
	for _, c := range []struct {
		x uint64
		b []byte
	}{
		{0, []byte{0}},
		{1, []byte{1}},
		{0x7f, []byte{0x7f}},
		{0x80, []byte{0x80, 1}},
		{0xff, []byte{0xff, 1}},
		{0x100, []byte{0x80, 2}},
		{300, []byte{0xac, 2}},
		{1<<14 - 1, []byte{0xff, 0x7f}},
		{1 << 14, []byte{0x80, 0x80, 1}},
		{624485, []byte{0xe5, 0x8e, 0x26}},
		{1 << 32, []byte{0x80, 0x80, 0x80, 0x80, 0x10}},
		{1<<63 - 1, join(run(8, 0xff), []byte{0x7f})},
		{1 << 63, join(run(9, 0x80), []byte{1})},
		{math.MaxUint64, join(run(9, 0xff), []byte{1})},
	} {
		if b := leb.Put(c.x); !bytes.Equal(b, c.b) {
			t.Errorf("Put(%d): %x, not %x", c.x, b, c.b)
		}
		if n := leb.Size(c.x); n != len(c.b) {
			t.Errorf("Size(%d): %d, not %d", c.x, n, len(c.b))
		}
	}
}

func TestPutByAnother(t *testing.T) {
	for _, x := range numbers() {
		want := binary.AppendUvarint(nil, x)
		if b := leb.Put(x); !bytes.Equal(b, want) {
			t.Errorf("Put(%d): %x, not %x", x, b, want)
		}
		if n := leb.Size(x); n != len(want) {
			t.Errorf("Size(%d): %d, not %d", x, n, len(want))
		}
	}
}

func TestPutIsNewEachTime(t *testing.T) {
	leb.Put(300)[0] = 9
	if b := leb.Put(300); !bytes.Equal(b, []byte{0xac, 2}) {
		t.Errorf("%x", b)
	}
}

// P2.2

func TestGet(t *testing.T) {
	for _, c := range []struct {
		b []byte
		x uint64
		n int
	}{
		{[]byte{0}, 0, 1},
		{[]byte{0, 0}, 0, 1},
		{[]byte{0, 0x80}, 0, 1},
		{[]byte{1, 0xff}, 1, 1},
		{[]byte{0x7f}, 127, 1},
		{[]byte{0x80, 1}, 128, 2},
		{[]byte{0xac, 2}, 300, 2},
		{[]byte{0xac, 2, 0}, 300, 2},
		{[]byte{0xac, 2, 0xac, 2}, 300, 2},
		{[]byte{0x80, 0x80, 1, 0x80}, 1 << 14, 3},
		{join(run(9, 0x80), []byte{1}), 1 << 63, 10},
		{join(run(9, 0xff), []byte{1}), math.MaxUint64, 10},
		{join(run(9, 0xff), []byte{1}, run(20, 0xff)), math.MaxUint64, 10},
		{join(run(8, 0xff), []byte{0x7f}), 1<<63 - 1, 9},
	} {
		if x, n, e := leb.Get(c.b); x != c.x || n != c.n || e != api.OK {
			t.Errorf("Get(%x): %d, %d, %d", c.b, x, n, e)
		}
	}
}

func TestGetRefuses(t *testing.T) {
	for _, c := range []struct {
		b []byte
		e api.Errno
	}{
		{nil, api.ErrShort},
		{[]byte{}, api.ErrShort},
		{[]byte{0x80}, api.ErrShort},
		{[]byte{0xff}, api.ErrShort},
		{[]byte{0x80, 0x80}, api.ErrShort},
		{run(9, 0xff), api.ErrShort},
		{run(9, 0x80), api.ErrShort},
		// Not in its least form.
		{[]byte{0x80, 0}, api.ErrLeb},
		{[]byte{0xff, 0}, api.ErrLeb},
		{[]byte{0x80, 0, 1}, api.ErrLeb},
		{[]byte{0x80, 0x80, 0}, api.ErrLeb},
		{[]byte{0xac, 0x82, 0}, api.ErrLeb},
		{join(run(8, 0x80), []byte{0}), api.ErrLeb},
		{join(run(9, 0xff), []byte{0}), api.ErrLeb},
		// 2^64 or more.
		{join(run(9, 0x80), []byte{2}), api.ErrLeb},
		{join(run(9, 0xff), []byte{3}), api.ErrLeb},
		{join(run(9, 0x80), []byte{0x40}), api.ErrLeb},
		{join(run(9, 0xff), []byte{0x7f}), api.ErrLeb},
		// More than ten bytes.
		{join(run(10, 0x80), []byte{1}), api.ErrLeb},
		{join(run(10, 0xff), []byte{0}), api.ErrLeb},
		{join(run(9, 0x80), []byte{0x81, 1}), api.ErrLeb},
		{join(run(9, 0x80), []byte{0x81, 0}), api.ErrLeb},
		{join(run(1000, 0x80), []byte{1}), api.ErrLeb},
		{join(run(10, 0x80), []byte{1}, run(10, 0x80)), api.ErrLeb},
		// Of several errors the one that is named first.
		{run(10, 0xff), api.ErrShort},
		{run(10, 0x80), api.ErrShort},
		{run(11, 0xff), api.ErrShort},
		{run(1000, 0x80), api.ErrShort},
	} {
		if x, n, e := leb.Get(c.b); x != 0 || n != 0 || e != c.e {
			t.Errorf("Get(%x): %d, %d, %d, not %d", c.b, x, n, e, c.e)
		}
	}
}

// read is Get as the promise's words have it, without regard to time or to the width of numbers.
func read(b []byte) (uint64, int, api.Errno) {
	n := 1 + slices.IndexFunc(b, func(c byte) bool { return c < 128 })
	if n == 0 {
		return 0, 0, api.ErrShort
	}
	x := new(big.Int)
	for _, c := range slices.Backward(b[:n]) {
		x.Mul(x, big.NewInt(128))
		x.Add(x, big.NewInt(int64(c%128)))
	}
	if n > 10 || !x.IsUint64() || n > 1 && b[n-1] == 0 {
		return 0, 0, api.ErrLeb
	}
	return x.Uint64(), n, api.OK
}

func TestGetByWords(t *testing.T) {
	all := texts(7, 0, 1, 0x7f, 0x80, 0xff)
	for _, head := range texts(3, 0x80, 0xff, 0xd5) {
		for n := range 12 {
			for c := range 256 {
				all = append(all, join(head, run(n, 0x80), []byte{byte(c)}), join(head, run(n, 0xff), []byte{byte(c), 1}))
			}
		}
	}
	for _, b := range all {
		x, n, e := leb.Get(b)
		if wx, wn, we := read(b); x != wx || n != wn || e != we {
			t.Fatalf("Get(%x): %d, %d, %d, not %d, %d, %d", b, x, n, e, wx, wn, we)
		}
	}
}

// P2.3

func TestBytes(t *testing.T) {
	for _, c := range []struct{ b, want []byte }{
		{nil, []byte{0}},
		{[]byte{}, []byte{0}},
		{[]byte{0}, []byte{1, 0}},
		{[]byte("abc"), []byte("\x03abc")},
		{[]byte{0x80, 0xff}, []byte{2, 0x80, 0xff}},
		{run(127, 'a'), join([]byte{127}, run(127, 'a'))},
		{run(128, 'a'), join([]byte{0x80, 1}, run(128, 'a'))},
		{run(300, 'a'), join([]byte{0xac, 2}, run(300, 'a'))},
		{run(1<<14, 'a'), join([]byte{0x80, 0x80, 1}, run(1<<14, 'a'))},
	} {
		if b := leb.Bytes(c.b); !bytes.Equal(b, c.want) {
			t.Errorf("Bytes(%x): %x", c.b, b)
		}
	}
}

func TestBytesCountsNoRoomBehindTheEnd(t *testing.T) {
	long := []byte("abcdef")
	if b := leb.Bytes(long[:2]); string(b) != "\x02ab" || string(long) != "abcdef" {
		t.Errorf("%x, %q", b, long)
	}
}

func TestTake(t *testing.T) {
	for _, c := range []struct {
		b    []byte
		most int
		data []byte
		n    int
	}{
		{[]byte{0}, 0, nil, 1},
		{[]byte{0, 1, 2}, 0, nil, 1},
		{[]byte{0}, math.MaxInt, nil, 1},
		{[]byte("\x03abc"), 3, []byte("abc"), 4},
		{[]byte("\x03abc"), 4, []byte("abc"), 4},
		{[]byte("\x03abc"), math.MaxInt, []byte("abc"), 4},
		{[]byte("\x03abcdef"), 3, []byte("abc"), 4},
		{[]byte{2, 0x80, 0, 1}, 2, []byte{0x80, 0}, 3},
		{join([]byte{127}, run(127, 'a')), 127, run(127, 'a'), 128},
		{join([]byte{0x80, 1}, run(129, 'a')), 128, run(128, 'a'), 130},
		{join([]byte{0xac, 2}, run(300, 'a')), 300, run(300, 'a'), 302},
		{join([]byte{0x80, 0x80, 1}, run(1<<14, 'a')), 1 << 14, run(1<<14, 'a'), 1<<14 + 3},
	} {
		data, n, e := leb.Take(c.b, c.most)
		if !bytes.Equal(data, c.data) || n != c.n || e != api.OK {
			t.Errorf("Take(%x, %d): %x, %d, %d", c.b, c.most, data, n, e)
		}
	}
}

func TestTakeRefuses(t *testing.T) {
	for _, c := range []struct {
		b    []byte
		most int
		e    api.Errno
	}{
		// Get's errors.
		{nil, 9, api.ErrShort},
		{[]byte{0x80}, 9, api.ErrShort},
		{run(12, 0xff), 9, api.ErrShort},
		{[]byte{0x80, 0}, 9, api.ErrLeb},
		{[]byte{0x83, 0, 'a', 'b', 'c'}, 9, api.ErrLeb},
		{join(run(9, 0xff), []byte{2}), math.MaxInt, api.ErrLeb},
		{join(run(10, 0x80), []byte{1}), math.MaxInt, api.ErrLeb},
		// More than most.
		{[]byte("\x03abc"), 2, api.ErrArg},
		{[]byte("\x03abc"), 0, api.ErrArg},
		{[]byte("\x03abc"), -1, api.ErrArg},
		{[]byte("\x03abc"), math.MinInt, api.ErrArg},
		{[]byte{0}, -1, api.ErrArg},
		{[]byte{0}, math.MinInt, api.ErrArg},
		{join([]byte{0xac, 2}, run(300, 'a')), 299, api.ErrArg},
		{leb.Put(1 << 63), math.MaxInt, api.ErrArg},
		{leb.Put(math.MaxUint64), math.MaxInt, api.ErrArg},
		{leb.Put(math.MaxUint64), -1, api.ErrArg},
		// Not as many.
		{[]byte{1}, 1, api.ErrShort},
		{[]byte("\x03ab"), 3, api.ErrShort},
		{[]byte("\x03"), 9, api.ErrShort},
		{join([]byte{0xac, 2}, run(299, 'a')), 300, api.ErrShort},
		{leb.Put(math.MaxInt64), math.MaxInt, api.ErrShort},
		{join(leb.Put(math.MaxInt64), run(20, 'a')), math.MaxInt, api.ErrShort},
		// Of several errors the one that is named first.
		{nil, -1, api.ErrShort},
		{[]byte{0x80}, -1, api.ErrShort},
		{[]byte{0x83, 0}, 2, api.ErrLeb},
		{[]byte{0x83, 0}, -1, api.ErrLeb},
		{[]byte("\x03ab"), 2, api.ErrArg},
		{[]byte("\x03ab"), -1, api.ErrArg},
	} {
		data, n, e := leb.Take(c.b, c.most)
		if len(data) != 0 || n != 0 || e != c.e {
			t.Errorf("Take(%x, %d): %x, %d, %d, not %d", c.b, c.most, data, n, e, c.e)
		}
	}
}

func TestTakeByWords(t *testing.T) {
	for _, b := range texts(6, 0, 1, 2, 4, 0x80, 0x81) {
		for most := -1; most < 6; most++ {
			var want []byte
			x, n, fault := read(b)
			switch {
			case fault != api.OK:
			case most < 0 || x > uint64(most):
				n, fault = 0, api.ErrArg
			case x > uint64(len(b)-n):
				n, fault = 0, api.ErrShort
			default:
				want = b[n : n+int(x)]
				n += int(x)
			}
			data, m, e := leb.Take(b, most)
			if !bytes.Equal(data, want) || m != n || e != fault {
				t.Fatalf("Take(%x, %d): %x, %d, %d, not %x, %d, %d", b, most, data, m, e, want, n, fault)
			}
		}
	}
}

// A reader must not look behind the end of what it is given, even where there is room.
func TestRoomBehindTheEndIsNobodys(t *testing.T) {
	long := []byte("\x80\x01\x03abc")
	if x, n, e := leb.Get(long[:1]); x != 0 || n != 0 || e != api.ErrShort {
		t.Errorf("%d, %d, %d", x, n, e)
	}
	if data, n, e := leb.Take(long[2:5], 9); len(data) != 0 || n != 0 || e != api.ErrShort {
		t.Errorf("%x, %d, %d", data, n, e)
	}
}

func TestMemoryIsNew(t *testing.T) {
	in := []byte("\x02ab\x01c")
	data, _, _ := leb.Take(in, 9)
	data[0] = 'x'
	data = append(data, "yz"...)
	if string(in) != "\x02ab\x01c" {
		t.Errorf("Take's answer is in its argument: %q", in)
	}
	in[2] = 'q'
	if string(data) != "xbyz" {
		t.Errorf("Take's argument is in its answer: %q", data)
	}

	in = []byte("ab")
	out := leb.Bytes(in)
	in[0] = 'x'
	out[2] = 'y'
	if string(out) != "\x02ay" || string(in) != "xb" {
		t.Errorf("Bytes: %q, %q", out, in)
	}
}

// P2.4

func TestGetOfPut(t *testing.T) {
	check := func(x uint64) {
		b := leb.Put(x)
		y, n, e := leb.Get(join(b, []byte{0x80}))
		if y != x || n != len(b) || n != leb.Size(x) || e != api.OK {
			t.Fatalf("Get(Put(%d)): %d, %d, %d", x, y, n, e)
		}
	}
	for x := range uint64(1 << 17) {
		check(x)
		check(math.MaxUint64 - x)
	}
	for _, x := range numbers() {
		check(x)
	}
}

func TestWhatIsReadIsWrittenAsItWas(t *testing.T) {
	all := texts(7, 0, 1, 2, 0x7f, 0x80, 0xff)
	for _, x := range numbers() {
		all = append(all, leb.Put(x))
	}
	for _, b := range all {
		if x, n, e := leb.Get(b); e == api.OK && !bytes.Equal(leb.Put(x), b[:n]) {
			t.Fatalf("Get(%x): %d, %d, but Put: %x", b, x, n, leb.Put(x))
		}
		if data, n, e := leb.Take(b, len(b)); e == api.OK && !bytes.Equal(leb.Bytes(data), b[:n]) {
			t.Fatalf("Take(%x): %x, %d, but Bytes: %x", b, data, n, leb.Bytes(data))
		}
	}
}

func TestTakeOfBytes(t *testing.T) {
	for _, size := range []int{0, 1, 2, 126, 127, 128, 129, 1<<14 - 1, 1 << 14, 1<<14 + 1, 1 << 21} {
		b := run(size, 0x80)
		w := leb.Bytes(b)
		data, n, e := leb.Take(join(w, []byte("more")), size)
		if !bytes.Equal(data, b) || n != len(w) || e != api.OK {
			t.Errorf("%d bytes: %d bytes, %d, %d", size, len(data), n, e)
		}
		if data, n, e := leb.Take(w, size-1); len(data) != 0 || n != 0 || e != api.ErrArg {
			t.Errorf("%d bytes: %d bytes, %d, %d", size, len(data), n, e)
		}
		if data, n, e := leb.Take(w[:len(w)-1], size); len(data) != 0 || n != 0 || e != api.ErrShort {
			t.Errorf("%d bytes: %d bytes, %d, %d", size, len(data), n, e)
		}
	}
}
