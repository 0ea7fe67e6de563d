package frame_test

import (
	"bytes"
	"encoding/binary"
	"encoding/hex"
	"hash/crc32"
	"math"
	"math/rand"
	"slices"
	"strings"
	"sync"
	"testing"

	"palimpsest/api"
	"palimpsest/frame"
)

// puts holds Put against the words, and answers what it answered.
func puts(t *testing.T, r api.Record) ([]byte, api.Errno) {
	t.Helper()
	b, e := frame.Put(r)
	if want, f := putByWords(r); !bytes.Equal(b, want) || e != f {
		t.Fatalf("Put of kind %d, %d bytes, %s answers %s, %d instead of %s, %d", r.Kind, len(r.Data), r.Key, ahead(b), e, ahead(want), f)
	}
	return b, e
}

// nexts holds Next against the words, and answers what it answered.
func nexts(t *testing.T, b []byte) (api.Record, int, api.Errno) {
	t.Helper()
	r, n, e := frame.Next(b)
	if want, m, f := nextByWords(b); !same(r, want) || n != m || e != f {
		t.Fatalf("Next of %d bytes %s answers kind %d, %s, %s, %d, %d instead of kind %d, %s, %s, %d, %d", len(b), ahead(b), r.Kind, r.Key, ahead(r.Data), n, e, want.Kind, want.Key, ahead(want.Data), m, f)
	}
	return r, n, e
}

// scans holds Scan against the words, and answers what it answered.
func scans(t *testing.T, b []byte) ([]api.Record, []int, int) {
	t.Helper()
	l, places, end := frame.Scan(b)
	want, at, last := scanByWords(b)
	if !slices.EqualFunc(l, want, same) || !slices.Equal(places, at) || end != last {
		t.Fatalf("Scan of %d bytes %s answers %d records at %v, up to %d, instead of %d at %v, up to %d", len(b), ahead(b), len(l), places, end, len(want), at, last)
	}
	return l, places, end
}

// refused needs that Next refuses b with that error, and answers nothing else.
func refused(t *testing.T, what string, b []byte, want api.Errno) {
	t.Helper()
	if r, n, e := nexts(t, b); !same(r, api.Record{}) || n != 0 || e != want {
		t.Errorf("Next of %s, %s, answers %v, %d, %d instead of %d", what, ahead(b), r, n, e, want)
	}
}

// put answers the bytes of a record that may be.
func put(t *testing.T, r api.Record) []byte {
	t.Helper()
	b, e := puts(t, r)
	if e != api.OK {
		t.Fatalf("Put of kind %d, %d bytes answers %d", r.Kind, len(r.Data), e)
	}
	return b
}

// ahead answers the first of bytes, as digits.
func ahead(b []byte) string { return hex.EncodeToString(b[:min(len(b), 40)]) }

// record answers the record of a kind with those Data.
func record(kind int, data []byte) api.Record {
	return api.Record{Kind: kind, Key: keyByWords(byte(kind), data), Data: data}
}

// chance answers n bytes by chance.
func chance(r *rand.Rand, n int) []byte {
	b := make([]byte, n)
	r.Read(b)
	return b
}

// some answers a record by chance, mostly a small one.
func some(r *rand.Rand) api.Record {
	return record(1+r.Intn(4), chance(r, r.Intn(longest+1)>>r.Intn(14)))
}

// steps answers n bytes, each seven above the one ahead.
func steps(n int) []byte {
	b := make([]byte, n)
	for i := range b {
		b[i] = byte(7 * i)
	}
	return b
}

// sizes are how many bytes Data may have, at the edges of their lengths.
func sizes() []int {
	all := []int{0, 1, 2, 3, 4, 5, 100, 126, 127, 128, 129, 130, 8190, 8191, 8192}
	for i := 8; i < 13; i++ {
		all = append(all, 1<<i-1, 1<<i, 1<<i+1)
	}
	return all
}

// wrongKinds are kinds of which there are no records, those that are from 1 to 4 modulo 256 among them.
func wrongKinds() []int {
	return []int{0, -1, -2, -4, -251, -252, -253, -254, -255, 5, 6, 7, 8, 127, 128, 129, 255, 256, 257, 258, 259, 260, 261, 1<<16 + 1, 1<<32 + 1, 1<<32 + 4, math.MinInt, math.MinInt + 1, math.MinInt + 4, math.MaxInt - 254, math.MaxInt}
}

// P12.1: Put

func TestPutOfKnownBytes(t *testing.T) {
	for _, c := range []struct {
		kind      int
		data, key string
		want      string
	}{
		{1, "05", "bc5959f43bc6e47175374b6716e53c9a7d72c59424c821336995bad760d9aeb3", "a5" + "01" + "01" + "05" + "d2994233"},
		{2, "", "dbc1b4c900ffe48d575b5da5c638040125f65db0fe3e24494b76ea986457d986", "a5" + "02" + "00" + "1b24c412"},
		{3, "313233343536373839", "dd84127144c78650d142f395469c7439678902a59194a078258e0ba20a90e386", "a5" + "03" + "09" + "313233343536373839" + "24658ad3"},
		{4, "0300", "367476039537aab81a28605315d50ef9a53269f2bbd1571a641cd0a769e398a9", "a5" + "04" + "02" + "0300" + "01f72ed9"},
	} {
		data, _ := hex.DecodeString(c.data)
		r := api.Record{Kind: c.kind, Key: api.Key(c.key), Data: data}
		b, e := frame.Put(r)
		if got := hex.EncodeToString(b); got != c.want || e != api.OK {
			t.Errorf("Put of %v answers %s, %d", r, got, e)
		}
		if got, n, e := frame.Next(b); !same(got, r) || n != len(b) || e != api.OK {
			t.Errorf("Next of %s answers %v, %d, %d", c.want, got, n, e)
		}
	}
}

// Of long Data the length has two bytes; what stands ahead of them and behind them is known.
func TestPutOfKnownLongBytes(t *testing.T) {
	for _, c := range []struct {
		n         int
		key       api.Key
		head, sum string
	}{
		{127, "373adc2d9cfa25a2fd5718f2d18a407cb501163c150174a29ff3f61b36007c25", "a5017f", "724b1b92"},
		{128, "c3f62d76eac288485efb7c8f538c12ca6dc3e1e7380dc060ebe1e4bfdddbe1f4", "a5018001", "ee351582"},
		{8192, "8f3aef3faf4aa8fdf1981d72f9e5d0f7a16f01e505ba9cd226570fa42844818f", "a5018040", "d154c193"},
	} {
		want := c.head + hex.EncodeToString(steps(c.n)) + c.sum
		b, e := frame.Put(api.Record{Kind: 1, Key: c.key, Data: steps(c.n)})
		if hex.EncodeToString(b) != want || e != api.OK {
			t.Errorf("Put of %d bytes answers %s, %d", c.n, ahead(b), e)
		}
	}
}

func TestPut(t *testing.T) {
	for kind := 1; kind <= 4; kind++ {
		for _, n := range sizes() {
			put(t, record(kind, steps(n)))
			put(t, record(kind, make([]byte, n)))
		}
	}
	r := rand.New(rand.NewSource(12))
	for range 1000 {
		put(t, some(r))
	}
}

func TestPutRefusesKinds(t *testing.T) {
	for _, kind := range wrongKinds() {
		for _, data := range [][]byte{nil, {5}, steps(200)} {
			if b, e := puts(t, record(kind, data)); len(b) != 0 || e != api.ErrFrame {
				t.Errorf("Put of kind %d answers %s, %d", kind, ahead(b), e)
			}
		}
	}
	if b, e := puts(t, api.Record{}); len(b) != 0 || e != api.ErrFrame {
		t.Errorf("Put of nothing answers %s, %d", ahead(b), e)
	}
}

func TestPutRefusesLongData(t *testing.T) {
	for _, n := range []int{longest + 1, longest + 2, longest + 128, 2 * longest, 2*longest + 1, 1 << 16, 1<<16 + 1, 1 << 20} {
		for kind := range 6 {
			if b, e := puts(t, record(kind, steps(n))); len(b) != 0 || e != api.ErrFrame {
				t.Errorf("Put of %d bytes answers %s, %d", n, ahead(b), e)
			}
		}
	}
}

// The key must be that of the kind and the Data, whole.
func TestPutRefusesKeys(t *testing.T) {
	data := []byte("a chunk")
	right := keyByWords(1, data)
	digits := "0123456789abcdef"
	wrong := []api.Key{"", " ", "0", right[1:], right[:63], right + "0", right + right, right[:32], " " + right, right + "\n",
		api.Key(strings.ToUpper(string(right))), api.Key(strings.Repeat("0", 64)), api.Key(strings.Repeat("\xff", 64)), api.Key(strings.Repeat("\x00", 32)),
		keyByWords(0, data), keyByWords(2, data), keyByWords(3, data), keyByWords(4, data), keyByWords(5, data),
		keyByWords(1, nil), keyByWords(1, data[1:]), keyByWords(1, data[:6]), keyByWords(1, append(data[:7:7], 0)), keyByWords(data[0], data[1:])}
	for i := range right {
		at := strings.IndexByte(digits, right[i])
		wrong = append(wrong, right[:i]+api.Key(digits[(at+1)%16])+right[i+1:])
	}
	for _, k := range wrong {
		if b, e := puts(t, api.Record{Kind: 1, Key: k, Data: data}); len(b) != 0 || e != api.ErrFrame {
			t.Errorf("Put with the key %s answers %s, %d", k, ahead(b), e)
		}
	}
	put(t, api.Record{Kind: 1, Key: right, Data: data})
}

// P12.1: Size

func TestSize(t *testing.T) {
	if frame.Size(1) != 8 || frame.Size(0) != 7 || frame.Size(127) != 134 || frame.Size(128) != 136 || frame.Size(8192) != 8200 {
		t.Error("Size", frame.Size(1), frame.Size(0), frame.Size(127), frame.Size(128), frame.Size(8192))
	}
	for n := range longest + 1 {
		want := len(partsOf(1, make([]byte, n)).sealed())
		if got := frame.Size(n); got != want {
			t.Fatalf("Size of %d answers %d instead of %d", n, got, want)
		}
	}
	for _, n := range sizes() {
		if b := put(t, record(3, steps(n))); len(b) != frame.Size(n) {
			t.Errorf("Size of %d answers %d, and there are %d", n, frame.Size(n), len(b))
		}
	}
	for _, n := range []int{-1, -2, -128, -longest, -longest - 1, longest + 1, longest + 2, 2 * longest, 1 << 14, 1 << 32, 1<<32 + 1, math.MinInt, math.MinInt + 1, math.MaxInt - 1, math.MaxInt} {
		if got := frame.Size(n); got != 0 {
			t.Errorf("Size of %d answers %d", n, got)
		}
	}
}

// P12.2: Next

// Whatever stands behind a record, it is read as it is alone.
func TestNext(t *testing.T) {
	chances := rand.New(rand.NewSource(13))
	for kind := 1; kind <= 4; kind++ {
		for _, size := range sizes() {
			want := record(kind, steps(size))
			b := partsOf(byte(kind), want.Data).sealed()
			for _, tail := range [][]byte{nil, {0}, {0xa5}, {0xff}, b, make([]byte, 300), chance(chances, 300)} {
				if r, n, e := nexts(t, slices.Concat(b, tail)); !same(r, want) || n != len(b) || e != api.OK {
					t.Errorf("Next of kind %d, %d bytes answers kind %d, %s, %d, %d", kind, size, r.Kind, r.Key, n, e)
				}
			}
		}
	}
}

func TestNextOfBytesThatEndWithin(t *testing.T) {
	refused(t, "nothing", nil, api.ErrShort)
	refused(t, "nothing", []byte{}, api.ErrShort)
	for _, size := range []int{0, 1, 2, 127, 128, 300, longest} {
		b := partsOf(2, steps(size)).sealed()
		for n := range b {
			if n > 400 && n%97 != 0 && n < len(b)-8 {
				continue
			}
			refused(t, "bytes that end within a record", b[:n], api.ErrShort)
		}
	}
}

// A length says how far a record goes, however far that is.
func TestNextOfBytesThatEndWithinAsFarAsTheLengthTells(t *testing.T) {
	for _, length := range []uint64{8, 127, 128, 8192, 8193, 8194, 16383, 16384, 1 << 20, 1<<31 - 1, 1 << 31, 1<<32 - 1, 1 << 32, 1<<32 + 1, 1<<63 - 20, 1<<63 - 12, 1<<63 - 5, 1<<63 - 4, 1<<63 - 1, 1 << 63, 1<<63 + 1, 1<<64 - 20, 1<<64 - 12, 1<<64 - 8, 1<<64 - 5, 1<<64 - 4, 1<<64 - 1} {
		p := partsOf(1, steps(7))
		p.length = binary.AppendUvarint(nil, length)
		refused(t, "a length that is too great", p.sealed(), api.ErrShort)
		p.data = nil
		refused(t, "a length that is too great", p.sealed(), api.ErrShort)
		refused(t, "a length that is too great", slices.Concat([]byte{0xa5, 1}, p.length), api.ErrShort)
	}
	for size := range 12 { // the length tells one byte more than there are, or as many
		p := partsOf(1, steps(size))
		p.length = []byte{byte(size + 1)}
		refused(t, "a length that is one too great", p.sealed(), api.ErrShort)
		p.length = []byte{byte(size)}
		if r, _, e := nexts(t, p.sealed()); len(r.Data) != size || e != api.OK {
			t.Errorf("Next of %d bytes answers %v, %d", size, r, e)
		}
	}
}

func TestNextOfBytesThatEndWithinTheLength(t *testing.T) {
	for n := range 40 {
		refused(t, "a length without its end", append([]byte{0xa5, 1}, bytes.Repeat([]byte{0x80}, n)...), api.ErrShort)
		refused(t, "a length without its end", append([]byte{0xa5, 4}, bytes.Repeat([]byte{0xff}, n)...), api.ErrShort)
	}
}

// ErrShort is named first: where it applies too, it is told.
func TestNextTellsFirstThatBytesEndTooSoon(t *testing.T) {
	for x := range 256 {
		refused(t, "another first byte alone", []byte{byte(x)}, api.ErrShort)
		refused(t, "another Kind without a length", []byte{0xa5, byte(x)}, api.ErrShort)
		refused(t, "another first byte without a length", []byte{byte(x), 1, 0x80}, api.ErrShort)
		refused(t, "another Kind, and a length without its end", []byte{0xa5, byte(x), 0x80}, api.ErrShort)
		refused(t, "another first byte, and bytes that end within", []byte{byte(x), 1, 3, 1, 2}, api.ErrShort)
		refused(t, "another Kind, and bytes that end within", []byte{0xa5, byte(x), 3, 1, 2, 3, 4, 5, 6}, api.ErrShort)
	}
	p := partsOf(9, nil)
	p.first, p.length = 0, binary.AppendUvarint(nil, longest+1)
	refused(t, "all that is wrong, and bytes that end within", p.sealed(), api.ErrShort)
}

func TestNextOfAnotherFirstByteOrKind(t *testing.T) {
	for _, size := range []int{0, 1, 200} {
		p := partsOf(1, steps(size))
		for x := range 256 {
			p.first, p.kind = byte(x), 1
			if x != 0xa5 {
				refused(t, "another first byte", p.sealed(), api.ErrFrame)
			}
			p.first, p.kind = 0xa5, byte(x)
			if x < 1 || x > 4 {
				refused(t, "another Kind", p.sealed(), api.ErrFrame)
			} else if r, _, e := nexts(t, p.sealed()); r.Kind != x || e != api.OK {
				t.Errorf("Next of kind %d answers %v, %d", x, r, e)
			}
		}
	}
}

// A length must be one, in its least form, whatever stands behind.
func TestNextOfNoLength(t *testing.T) {
	for _, length := range []string{
		"8000", "8100", "808000", "ff00", "80808080808080808000", // 0 in a longer form, and others
		"8500", "858000", // 5
		"80808080808080808002", "ffffffffffffffffff02", "ffffffffffffffffff7f", // 2^64 and more
		"8080808080808080808001", "ffffffffffffffffffff01", "8080808080808080808000", "8580808080808080808000", // more than ten bytes
	} {
		p := partsOf(1, steps(5))
		p.length, _ = hex.DecodeString(length)
		refused(t, "the length "+length, p.sealed(), api.ErrFrame)
		refused(t, "the length "+length, append(p.sealed(), make([]byte, longest)...), api.ErrFrame)
		refused(t, "the length "+length+" alone", append([]byte{0xa5, 1}, p.length...), api.ErrFrame)
	}
	p := partsOf(1, nil)
	p.length = append(bytes.Repeat([]byte{0x80}, 1000), 1)
	refused(t, "a length of very many bytes", p.sealed(), api.ErrFrame)
}

// A record that is too long is none, though all of it is there, and its sum is right.
func TestNextOfALengthThatIsTooGreat(t *testing.T) {
	for _, size := range []int{longest + 1, longest + 2, longest + 100, 2 * longest, 1<<14 - 1, 1 << 14, 1 << 16, 1<<16 + 5, 1 << 20} {
		for kind := range byte(6) {
			b := partsOf(kind, steps(size)).sealed()
			refused(t, "a long record", b, api.ErrFrame)
			refused(t, "a long record with more behind", append(b, b...), api.ErrFrame)
			refused(t, "a long record without its last byte", b[:len(b)-1], api.ErrShort)
		}
	}
	if r, n, e := nexts(t, partsOf(1, steps(longest)).sealed()); len(r.Data) != longest || n != 8200 || e != api.OK {
		t.Errorf("Next of the longest record answers %d bytes, %d, %d", len(r.Data), n, e)
	}
}

// The sum is that of all ahead of it, its lowest byte first.
func TestNextOfAnotherSum(t *testing.T) {
	for _, data := range [][]byte{nil, {5}, steps(20)} {
		b := partsOf(1, data).sealed()
		end := len(b) - 4
		sum := crc32.ChecksumIEEE(b[:end])
		wrong := []uint32{0, ^sum, sum + 1, sum - 1, crc32.ChecksumIEEE(b), crc32.ChecksumIEEE(data), crc32.Checksum(b[:end], crc32.MakeTable(crc32.Castagnoli))}
		for from := range end {
			for to := from; to <= end; to++ {
				if from > 0 || to < end {
					wrong = append(wrong, crc32.ChecksumIEEE(b[from:to]))
				}
			}
		}
		for i := range 32 {
			wrong = append(wrong, sum^1<<i)
		}
		for _, x := range wrong {
			torn := slices.Clone(b)
			binary.LittleEndian.PutUint32(torn[end:], x)
			refused(t, "another sum", torn, api.ErrFrame)
			refused(t, "another sum", append(torn, b...), api.ErrFrame)
		}
		binary.BigEndian.PutUint32(b[end:], sum)
		refused(t, "the sum's highest byte first", b, api.ErrFrame)
	}
}

// With any byte another one, a record is none.
func TestNextOfEachOtherByte(t *testing.T) {
	for _, size := range []int{0, 1, 5, 40, 130} {
		b := partsOf(3, steps(size)).sealed()
		for at := range b {
			for x := 1; x < 256; x++ {
				b[at] ^= byte(x)
				if r, n, e := nexts(t, b); !same(r, api.Record{}) || n != 0 || e == api.OK || at != 2 && at != 3 && e != api.ErrFrame {
					t.Fatalf("Next of %d bytes with the byte %#x at %d answers %v, %d, %d", size, b[at], at, r, n, e)
				}
				b[at] ^= byte(x)
			}
		}
	}
}

func TestNextOfAllShortBytes(t *testing.T) {
	some := []byte{0, 1, 3, 4, 5, 0x7f, 0x80, 0xa5, 0xff}
	var all func(b []byte)
	all = func(b []byte) {
		nexts(t, b)
		if len(b) < 5 {
			for _, x := range some {
				all(append(b[:len(b):len(b)], x))
			}
		}
	}
	all(nil)
}

// Bytes by chance, most of them with what a record begins with, some with a right sum behind them.
func TestNextOfChances(t *testing.T) {
	r := rand.New(rand.NewSource(14))
	read := 0
	for range 50000 {
		b := chance(r, r.Intn(40))
		for i, x := range []byte{0xa5, byte(1 + r.Intn(4)), byte(r.Intn(30))} {
			if i < len(b) && r.Intn(8) > 0 {
				b[i] = x
			}
		}
		if r.Intn(2) == 0 && len(b) > 2 {
			b = b[:min(len(b), 3+int(b[2]))]
			b = binary.LittleEndian.AppendUint32(b, crc32.ChecksumIEEE(b))
			b = append(b, chance(r, r.Intn(5))...)
		}
		if _, _, e := nexts(t, b); e == api.OK {
			read++
		}
	}
	if read < 1000 {
		t.Errorf("just %d records were read", read)
	}
}

// P12.2: Scan

func TestScanOfNoRecord(t *testing.T) {
	for _, b := range [][]byte{nil, {}, {0}, {0xa5}, {0xa5, 1}, make([]byte, 7), make([]byte, 16384), bytes.Repeat([]byte{0xa5}, 1000), bytes.Repeat([]byte{0xff}, 1000), append([]byte{0}, partsOf(1, nil).sealed()...)} {
		if l, places, end := scans(t, b); len(l) != 0 || len(places) != 0 || end != 0 {
			t.Errorf("Scan of %s answers %v, %v, %d", ahead(b), l, places, end)
		}
	}
}

func TestScan(t *testing.T) {
	a, b, c := record(1, []byte{5}), record(4, nil), record(2, steps(200))
	all := slices.Concat(put(t, a), put(t, b), put(t, c))
	for _, tail := range [][]byte{nil, {0}, {0xa5}, make([]byte, 500), put(t, a)[:7]} {
		l, places, end := scans(t, slices.Concat(all, tail))
		if len(l) != 3 || !same(l[0], a) || !same(l[1], b) || !same(l[2], c) || !slices.Equal(places, []int{0, 8, 15}) || end != 15+208 {
			t.Errorf("Scan answers %v, %v, %d", l, places, end)
		}
	}
}

// Behind one that cannot be read nothing is read, though there are records.
func TestScanEndsAtTheFirstThatCannotBeRead(t *testing.T) {
	one := partsOf(1, steps(9)).sealed()
	short, long := one[:len(one)-1], partsOf(1, steps(longest+1)).sealed()
	torn := slices.Clone(one)
	torn[5] ^= 4
	for _, wrong := range [][]byte{short, long, torn, {0}, {0xa5}, partsOf(5, nil).sealed(), partsOf(0, steps(3)).sealed()} {
		for n := range 5 {
			b := slices.Concat(bytes.Repeat(one, n), wrong, bytes.Repeat(one, 3))
			if l, places, end := scans(t, b); len(l) != n || len(places) != n || end != n*len(one) {
				t.Errorf("Scan of %d records ahead of %s answers %d at %v, up to %d", n, ahead(wrong), len(l), places, end)
			}
		}
	}
}

// However many records there are, the call ends soon.
func TestScanOfManyRecords(t *testing.T) {
	many := 1 << 18
	b := bytes.Repeat(partsOf(2, nil).sealed(), many)
	l, places, end := frame.Scan(append(b, 0x80))
	if len(l) != many || len(places) != many || places[many-1] != 7*(many-1) || end != 7*many || !same(l[many-1], record(2, nil)) {
		t.Errorf("Scan of %d records answers %d, %d places, up to %d", many, len(l), len(places), end)
	}
	long := append([]byte{0xa5, 1}, bytes.Repeat([]byte{0x80}, 1<<22)...)
	refused(t, "a length without its end", long, api.ErrShort)
	scans(t, long)
}

// P12.3

func TestNextOfPut(t *testing.T) {
	r := rand.New(rand.NewSource(15))
	for range 2000 {
		want := some(r)
		b := put(t, want)
		if got, n, e := nexts(t, b); !same(got, want) || n != len(b) || e != api.OK {
			t.Fatalf("Next of Put of kind %d, %d bytes answers kind %d, %s, %d, %d", want.Kind, len(want.Data), got.Kind, got.Key, n, e)
		}
	}
}

// Rows of records, with one more that is torn behind them at any place, and noughts or chances in the place of what is torn off.
func TestScanOfPuts(t *testing.T) {
	chances := rand.New(rand.NewSource(16))
	for range 300 {
		var row []api.Record
		var places []int
		var b []byte
		for range chances.Intn(8) {
			r := some(chances)
			row, places = append(row, r), append(places, len(b))
			b = append(b, put(t, r)...)
		}
		last := put(t, record(1+chances.Intn(4), append(chance(chances, chances.Intn(600)), 1)))
		torn := last[:chances.Intn(len(last))]
		for _, tail := range [][]byte{nil, torn, append(slices.Clone(torn), make([]byte, 700)...), append(slices.Clone(torn), chance(chances, 700)...)} {
			if bytes.HasPrefix(tail, last) {
				continue // by chance nothing of it is lost
			}
			l, at, end := scans(t, slices.Concat(b, tail))
			if !slices.EqualFunc(l, row, same) || !slices.Equal(at, places) || end != len(b) {
				t.Fatalf("Scan of %d records, and %d bytes torn, answers %d at %v, up to %d", len(row), len(tail), len(l), at, end)
			}
		}
	}
}

// A row that ends at each of its bytes has all records that end ahead of there.
func TestScanOfEachBeginning(t *testing.T) {
	row := []api.Record{record(1, steps(3)), record(2, nil), record(3, steps(128)), record(4, nil), record(1, steps(1))}
	var b []byte
	var ends []int
	for _, r := range row {
		b = append(b, put(t, r)...)
		ends = append(ends, len(b))
	}
	for n := range len(b) + 1 {
		whole, last := 0, 0
		for _, end := range ends {
			if end <= n {
				whole, last = whole+1, end
			}
		}
		if l, _, end := scans(t, b[:n]); !slices.EqualFunc(l, row[:whole], same) || end != last {
			t.Errorf("Scan of the first %d bytes answers %d records, up to %d", n, len(l), end)
		}
	}
}

// What is read is written as it was.
func TestPutOfScan(t *testing.T) {
	chances := rand.New(rand.NewSource(17))
	for range 200 {
		var b, again []byte
		for range chances.Intn(8) {
			r := some(chances)
			b = append(b, partsOf(byte(r.Kind), r.Data).sealed()...)
		}
		l, _, end := scans(t, b)
		for _, r := range l {
			again = append(again, put(t, r)...)
		}
		if !bytes.Equal(again, b) || end != len(b) {
			t.Fatalf("Puts of Scan of %d bytes are %d, Scan went up to %d", len(b), len(again), end)
		}
	}
}

// The rules that hold everywhere.

// What is handed in stays, and what stands behind its end is nobody's.
func TestArgumentsStay(t *testing.T) {
	room := []byte{1, 2, 3, 4, 5, 6}
	put(t, record(1, room[:3]))
	puts(t, api.Record{Kind: 1, Key: "0", Data: room[:3]})
	if !bytes.Equal(room, []byte{1, 2, 3, 4, 5, 6}) {
		t.Errorf("Data that were handed in have changed: %v", room)
	}
	b := slices.Concat(partsOf(1, steps(9)).sealed(), partsOf(2, steps(4)).sealed())
	was := slices.Clone(b)
	for n := range len(b) + 1 {
		nexts(t, b[:n])
		scans(t, b[:n])
	}
	if !bytes.Equal(b, was) {
		t.Error("bytes that were handed in have changed")
	}
}

// Answers are the caller's own.
func TestAnswersAreNewMemory(t *testing.T) {
	r := record(1, steps(9))
	b, again := put(t, r), put(t, r)
	clear(b)
	if want, _ := putByWords(r); !bytes.Equal(again, want) || !bytes.Equal(r.Data, steps(9)) {
		t.Error("what was put changes with another one")
	}
	b = slices.Concat(again, partsOf(2, steps(4)).sealed())
	was := slices.Clone(b)
	one, _, _ := frame.Next(b)
	other, _, _ := frame.Next(b)
	l, places, _ := frame.Scan(b)
	m, others, _ := frame.Scan(b)
	clear(one.Data)
	_ = append(one.Data, 1, 2, 3, 4)
	clear(l[0].Data)
	_ = append(l[0].Data, bytes.Repeat([]byte{9}, 50)...)
	clear(places)
	if !bytes.Equal(b, was) || !bytes.Equal(other.Data, steps(9)) || !bytes.Equal(l[1].Data, steps(4)) || !bytes.Equal(m[0].Data, steps(9)) || others[1] != 16 {
		t.Errorf("answers are bound together: %v, %v, %v, %v", b, other, l, m)
	}
	clear(b)
	if !bytes.Equal(other.Data, steps(9)) || !bytes.Equal(m[1].Data, steps(4)) {
		t.Errorf("answers change with what was handed in: %v, %v", other, m)
	}
}

// Answers hang on nothing but the arguments, whoever else calls.
func TestCallsKnowNothingOfOneAnother(t *testing.T) {
	var all sync.WaitGroup
	for i := range 8 {
		all.Go(func() {
			chances := rand.New(rand.NewSource(int64(i)))
			for range 200 {
				r := some(chances)
				b, e := frame.Put(r)
				got, n, f := frame.Next(b)
				if _, _, short := frame.Next(b[:n-1]); !same(got, r) || n != len(b) || e != api.OK || f != api.OK || short != api.ErrShort {
					t.Errorf("among other calls kind %d, %d bytes is kind %d, %s, %d, %d, %d, %d", r.Kind, len(r.Data), got.Kind, got.Key, n, e, f, short)
				}
			}
		})
	}
	all.Wait()
}
