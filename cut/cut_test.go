package cut_test

import (
	"bytes"
	"math/rand"
	"slices"
	"sync"
	"testing"

	"palimpsest/cut"
)

// What the chapter says of chunks.
const (
	least  = 512
	most   = 2048
	window = 16
)

// noise answers n bytes without order, the same ones each time.
func noise(n int) []byte {
	b := make([]byte, n)
	rand.New(rand.NewSource(int64(n))).Read(b)
	return b
}

// fingerprint divides bytes as one polynomial by x^31 + x^3 + 1, a bit at a time.
func fingerprint(b []byte) uint64 {
	f := uint64(0)
	for _, c := range b {
		for i := range 8 {
			f = f<<1 | uint64(c>>(7-i)&1)
			if f>>31 == 1 {
				f ^= 1<<31 | 1<<3 | 1
			}
		}
	}
	return f
}

// cutAt tells whether the fingerprint of the 16 bytes ahead of n has its ten lowest bits 1.
func cutAt(b []byte, n int) bool {
	f := fingerprint(b[n-window : n])
	for i := range 10 {
		if f>>i&1 == 0 {
			return false
		}
	}
	return true
}

// firstByWords tries each n, as the promise tells it.
func firstByWords(b []byte) int {
	if len(b) <= least {
		return len(b)
	}
	for n := least; n <= most && n <= len(b); n++ {
		if cutAt(b, n) {
			return n
		}
	}
	if len(b) < most {
		return len(b)
	}
	return most
}

// cutsByWords answers First, then First of what is left, and so on.
func cutsByWords(b []byte) []int {
	var ends []int
	at := 0
	for at < len(b) {
		at += firstByWords(b[at:])
		ends = append(ends, at)
	}
	return ends
}

// marked answers n noughts with two bytes ahead of each of the places, whose fingerprint is the number that they are.
func marked(n int, mark int, places ...int) []byte {
	b := make([]byte, n)
	for _, at := range places {
		b[at-2], b[at-1] = byte(mark>>8), byte(mark)
	}
	return b
}

// contents answers ordinary ones, long and short, and those whose bytes have an order.
func contents() [][]byte {
	all := [][]byte{nil, {}}
	for _, n := range []int{1, 2, 15, 16, 17, 31, 100, 495, 496, 497, 510, 511, 512, 513, 514, 527, 528, 529, 600, 1023, 1024, 1025, 1535, 1536, 2046, 2047, 2048, 2049, 2050, 2559, 2560, 2561, 4095, 4096, 4097, 5000, 10000, 32767, 32768} {
		all = append(all, noise(n), make([]byte, n), bytes.Repeat([]byte{0xff}, n))
	}
	for i := range 100 {
		all = append(all, noise(3000+17*i))
	}
	return append(all,
		bytes.Repeat([]byte("abc"), 3000),
		bytes.Repeat([]byte("A line of a text like many others, and its end.\n"), 300),
		bytes.Repeat(noise(700), 20),
		bytes.Repeat(noise(64), 200),
		slices.Concat(make([]byte, 3000), noise(3000), make([]byte, 3000)),
		marked(8000, 0x3ff, 512, 1024, 1600, 3000, 3100, 6000),
	)
}

// P6.1: First

func TestFirstOfAShortContentIsAll(t *testing.T) {
	for n := range least + 1 {
		for _, b := range [][]byte{make([]byte, n), noise(n), bytes.Repeat([]byte{0xff}, n)} {
			if got := cut.First(b); got != n {
				t.Errorf("First of %d bytes: %d", n, got)
			}
		}
	}
	if got := cut.First(nil); got != 0 {
		t.Errorf("First of nothing: %d", got)
	}
}

// Nowhere else than where it is marked does a content of noughts have such a fingerprint, as firstByWords tells too.
func TestFirstIsAtAMark(t *testing.T) {
	for n := least; n <= most; n++ {
		b := marked(5000, 0x3ff, n)
		if got := cut.First(b); got != n || got != firstByWords(b) {
			t.Fatalf("First with a mark at %d: %d, not %d", n, got, firstByWords(b))
		}
	}
}

func TestFirstOfMarksAtTheEdges(t *testing.T) {
	for _, c := range []struct {
		size   int
		places []int
		want   int
	}{
		{3000, nil, 2048},
		{3000, []int{511}, 2048}, // too soon
		{3000, []int{16}, 2048},
		{3000, []int{100, 300}, 2048},
		{3000, []int{512}, 512},
		{3000, []int{513}, 513},
		{3000, []int{2047}, 2047},
		{3000, []int{2048}, 2048},
		{3000, []int{2049}, 2048}, // too late
		{3000, []int{512, 600, 900}, 512},
		{3000, []int{900, 1200}, 900},
		{3000, []int{511, 1200}, 1200},
		{512, []int{512}, 512},
		{513, nil, 513},
		{513, []int{512}, 512}, // one byte is left
		{513, []int{513}, 513},
		{514, []int{513}, 513},
		{1000, nil, 1000},
		{1000, []int{1000}, 1000},
		{1000, []int{999}, 999},
		{2047, nil, 2047},
		{2048, nil, 2048},
		{2049, nil, 2048},
		{2048, []int{2047}, 2047},
	} {
		b := marked(c.size, 0x3ff, c.places...)
		if got := cut.First(b); got != c.want || got != firstByWords(b) {
			t.Errorf("First of %d bytes with marks at %v: %d, not %d", c.size, c.places, got, c.want)
		}
	}
}

// All ten bits must be 1, and no others matter.
func TestFirstAsksForTenBits(t *testing.T) {
	for i := range 10 {
		if got := cut.First(marked(3000, 0x3ff^1<<i, 700)); got != most {
			t.Errorf("First at a fingerprint without bit %d: %d", i, got)
		}
	}
	for i := range 6 {
		if got := cut.First(marked(3000, 0x3ff|1<<(10+i), 700)); got != 700 {
			t.Errorf("First at a fingerprint with bit %d besides: %d", 10+i, got)
		}
	}
	b := marked(3000, 0xffff, 700)
	b[700-4], b[700-3] = 0x7f, 0xff
	if got := cut.First(b); got > 700 || got != firstByWords(b) {
		t.Errorf("First at a fingerprint of 31 ones: %d, not %d", got, firstByWords(b))
	}
	for _, mark := range []int{0, 1, 0x3fe, 0x1ff, 0x200, 0xfc00} {
		if got := cut.First(marked(3000, mark, 700)); got != most {
			t.Errorf("First at a fingerprint of %#x: %d", mark, got)
		}
	}
}

// The window has 16 bytes: the first of them counts, the one ahead of it does not.
func TestFirstOfWhatTheWindowHas(t *testing.T) {
	for _, n := range []int{512, 513, 700, 2047, 2048} {
		// A byte 1 that is 15 bytes ahead of the last is x^120, of which x^30 + x^27 + x^8 + x^2 is left.
		b := marked(5000, 0x3ff^0x104, n)
		b[n-16] = 1
		if got := cut.First(b); got != n {
			t.Errorf("First with a mark of 16 bytes at %d: %d", n, got)
		}
		b[n-17] = 1
		if got := cut.First(b); got != n {
			t.Errorf("First with a byte ahead of the window at %d: %d", n, got)
		}
		b[n-16] = 0
		if got, want := cut.First(b), firstByWords(b); got != want {
			t.Errorf("First without the window's first byte at %d: %d, not %d", n, got, want)
		}
		b[n-17], b[n-16], b[n] = 0, 1, 0xff
		if got := cut.First(b); got != n {
			t.Errorf("First with a byte behind the window at %d: %d", n, got)
		}
	}
}

func TestFirstByWords(t *testing.T) {
	sizes := make([]int, most+1)
	for _, b := range contents() {
		for at := 0; at <= len(b); at += 97 {
			got, want := cut.First(b[at:]), firstByWords(b[at:])
			if got != want {
				t.Fatalf("First of %d bytes from %d on: %d, not %d", len(b)-at, at, got, want)
			}
			sizes[got]++
		}
	}
	within := 0
	for _, n := range sizes[least+1 : most] {
		within += n
	}
	if sizes[most] == 0 || within < 1000 {
		t.Errorf("of these contents %d are cut at %d, %d ahead of it", sizes[most], most, within)
	}
}

// Of each length of a content that has a cut: it counts as soon as the content has so many bytes.
func TestFirstOfEachLength(t *testing.T) {
	for _, b := range [][]byte{noise(2500), noise(2600), make([]byte, 2500), marked(2500, 0x3ff, 1300)} {
		for n := range len(b) + 1 {
			if got, want := cut.First(b[:n]), firstByWords(b[:n]); got != want {
				t.Fatalf("First of the first %d bytes of %d: %d, not %d", n, len(b), got, want)
			}
		}
	}
}

// P6.1: Cuts

func TestCutsOfTheExample(t *testing.T) {
	if got := cut.Cuts(make([]byte, 2053)); !slices.Equal(got, []int{2048, 2053}) {
		t.Errorf("Cuts of 2053 noughts: %v", got)
	}
}

func TestCutsAtTheEdges(t *testing.T) {
	for _, c := range []struct {
		b    []byte
		want []int
	}{
		{nil, nil},
		{[]byte{}, nil},
		{[]byte{7}, []int{1}},
		{make([]byte, 511), []int{511}},
		{make([]byte, 512), []int{512}},
		{make([]byte, 513), []int{513}},
		{make([]byte, 2047), []int{2047}},
		{make([]byte, 2048), []int{2048}},
		{make([]byte, 2049), []int{2048, 2049}},
		{make([]byte, 4096), []int{2048, 4096}},
		{make([]byte, 4097), []int{2048, 4096, 4097}},
		{make([]byte, 32768), []int{2048, 4096, 6144, 8192, 10240, 12288, 14336, 16384, 18432, 20480, 22528, 24576, 26624, 28672, 30720, 32768}},
		{marked(513, 0x3ff, 512), []int{512, 513}},
		{marked(1024, 0x3ff, 512), []int{512, 1024}},
		{marked(1025, 0x3ff, 512, 1024), []int{512, 1024, 1025}},
		{marked(3000, 0x3ff, 600, 1111), []int{600, 2648, 3000}}, // 511 behind a cut is too soon
		{marked(3000, 0x3ff, 600, 1112), []int{600, 1112, 3000}},
		{marked(5000, 0x3ff, 2600), []int{2048, 2600, 4648, 5000}},
		{marked(5000, 0x3ff, 2500), []int{2048, 4096, 5000}},
		{marked(3000, 0x3ff, 3000), []int{2048, 3000}}, // a cut at the end is the end
	} {
		if got := cut.Cuts(c.b); !slices.Equal(got, c.want) {
			t.Errorf("Cuts of %d bytes: %v, not %v", len(c.b), got, c.want)
		}
	}
}

func TestCutsByWords(t *testing.T) {
	for _, b := range contents() {
		if got, want := cut.Cuts(b), cutsByWords(b); !slices.Equal(got, want) {
			t.Errorf("Cuts of %d bytes: %v, not %v", len(b), got, want)
		}
	}
}

func TestCutsOfALongContent(t *testing.T) {
	b := noise(1 << 22)
	got := cut.Cuts(b)
	if !slices.Equal(got, cutsByWords(b)) {
		t.Errorf("Cuts of %d bytes: %d of them, not as told", len(b), len(got))
	}
}

// P6.1: Split and Join

func TestSplitIsTheBytesBetweenCuts(t *testing.T) {
	for _, b := range contents() {
		var want [][]byte
		at := 0
		for _, end := range cutsByWords(b) {
			want = append(want, b[at:end])
			at = end
		}
		if got := cut.Split(b); !slices.EqualFunc(got, want, bytes.Equal) {
			t.Errorf("Split of %d bytes: %d chunks, not the %d told", len(b), len(got), len(want))
		}
	}
	if got := cut.Split(nil); len(got) != 0 {
		t.Errorf("Split of nothing: %v", got)
	}
}

// Any pieces are joined, chunks or not.
func TestJoinOfAnyPieces(t *testing.T) {
	long := noise(5000)
	for _, c := range []struct {
		l    [][]byte
		want string
	}{
		{nil, ""},
		{[][]byte{}, ""},
		{[][]byte{nil}, ""},
		{[][]byte{nil, {}, nil}, ""},
		{[][]byte{[]byte("a")}, "a"},
		{[][]byte{[]byte("ab"), []byte("cde")}, "abcde"},
		{[][]byte{[]byte("cde"), []byte("ab")}, "cdeab"},
		{[][]byte{nil, []byte("ab"), {}, []byte("c"), nil}, "abc"},
		{[][]byte{{0}, {0, 0}, {0xff}}, "\x00\x00\x00\xff"},
		{[][]byte{long, []byte("x"), long}, string(long) + "x" + string(long)},
	} {
		if got := cut.Join(c.l); string(got) != c.want {
			t.Errorf("Join of %d pieces: %d bytes, not the %d told", len(c.l), len(got), len(c.want))
		}
	}
}

// P6.2

func TestJoinOfSplitIsTheContent(t *testing.T) {
	for _, b := range contents() {
		if got := cut.Join(cut.Split(b)); !bytes.Equal(got, b) {
			t.Errorf("Join of Split of %d bytes: %d others", len(b), len(got))
		}
	}
}

func TestHowLongChunksAre(t *testing.T) {
	for _, b := range contents() {
		l := cut.Split(b)
		for i, c := range l {
			last := i == len(l)-1
			if len(c) == 0 || len(c) > most || len(c) < least && !last {
				t.Errorf("chunk %d of %d in %d bytes has %d", i, len(l), len(b), len(c))
			}
		}
	}
}

// behind answers the cuts from at on, told from at.
func behind(cuts []int, at int) []int {
	var l []int
	for _, end := range cuts {
		if end >= at {
			l = append(l, end-at)
		}
	}
	return l
}

// A content is cut behind each of its cuts as though it began there.
func TestNothingAheadOfACutMatters(t *testing.T) {
	for _, b := range contents() {
		all := cut.Cuts(b)
		for i, at := range all {
			if got, want := cut.Cuts(b[at:]), behind(all[i+1:], at); !slices.Equal(got, want) {
				t.Errorf("%d bytes are cut behind %d at %v, not %v", len(b), at, want, got)
			}
		}
	}
}

// Bytes are put in, taken away and altered at a content's beginning: from the first cut of both on all cuts are alike.
func TestWhatEndsAlikeIsCutAlike(t *testing.T) {
	met := 0
	tail := noise(30000)
	for n := range 120 {
		a := slices.Concat(noise(1+n*7), tail)
		b := slices.Concat(noise(2000+n*11), tail)
		x, y := behind(cut.Cuts(a), len(a)-len(tail)), behind(cut.Cuts(b), len(b)-len(tail))
		for i, end := range x {
			if j := slices.Index(y, end); j >= 0 {
				if !slices.Equal(x[i:], y[j:]) {
					t.Fatalf("from a cut at %d on: %v and %v", end, x[i:], y[j:])
				}
				if end < len(tail) {
					met++
				}
				break
			}
		}
	}
	if met < 60 {
		t.Errorf("just %d of the contents have a cut alike ahead of the end", met)
	}
}

// The rules that hold everywhere.

// What is handed in stays, and what stands behind its end is nobody's.
func TestArgumentsStay(t *testing.T) {
	for _, n := range []int{0, 1, 511, 512, 513, 700, 2048, 2049, 5000} {
		all := noise(n + 3000)
		was := slices.Clone(all)
		b := all[:n]
		if got, want := cut.First(b), firstByWords(was[:n]); got != want {
			t.Errorf("First of %d bytes with room behind them: %d, not %d", n, got, want)
		}
		if got, want := cut.Cuts(b), cutsByWords(was[:n]); !slices.Equal(got, want) {
			t.Errorf("Cuts of %d bytes with room behind them: %v, not %v", n, got, want)
		}
		l := [][]byte{all[:n/2], all[n/2 : n]}
		if got := cut.Join(l); !bytes.Equal(got, was[:n]) {
			t.Errorf("Join of two halves of %d bytes: others", n)
		}
		if got := cut.Join(cut.Split(b)); !bytes.Equal(got, was[:n]) {
			t.Errorf("Join of Split of %d bytes with room behind them: others", n)
		}
		if !bytes.Equal(all, was) || len(l) != 2 || len(l[0]) != n/2 {
			t.Fatalf("what was handed in has changed, %d bytes", n)
		}
	}
}

// overwrite turns all bits of b, and appends to it: where there is room, that writes behind its end.
func overwrite(b []byte) {
	for i := range b {
		b[i] ^= 0xff
	}
	_ = append(b, 0x5a, 0xa5)
}

// Chunks are the caller's own: neither the content nor another chunk changes with one.
func TestChunksAreNewMemory(t *testing.T) {
	for _, n := range []int{1, 512, 513, 2049, 10000} {
		room := noise(n + 100)
		b := room[:n]
		was := slices.Clone(room)
		l := cut.Split(b)
		want := cut.Split(was[:n])
		for i := range l {
			overwrite(l[i])
			if !bytes.Equal(room, was) {
				t.Fatalf("the content of %d bytes changes with its chunk %d", n, i)
			}
			for j := i + 1; j < len(l); j++ {
				if !bytes.Equal(l[j], want[j]) {
					t.Fatalf("chunk %d of %d bytes changes with chunk %d", j, n, i)
				}
			}
		}
		for _, other := range want {
			overwrite(other)
		}
		if !bytes.Equal(cut.Join(cut.Split(b)), was[:n]) {
			t.Errorf("the chunks of %d bytes change with those of another call", n)
		}
	}
}

// Nor do chunks change with the content.
func TestChunksAreKept(t *testing.T) {
	b := noise(5000)
	was := slices.Clone(b)
	l := cut.Split(b)
	overwrite(b)
	if !bytes.Equal(cut.Join(l), was) {
		t.Error("chunks change with their content")
	}
}

func TestJoinedBytesAreNewMemory(t *testing.T) {
	for _, l := range [][][]byte{
		{noise(100)},
		{nil, noise(100)},
		{noise(100), nil},
		{noise(1000)[:100], noise(50)},
		{noise(2000)[:600:600], noise(50)},
	} {
		was := make([][]byte, len(l))
		for i, c := range l {
			was[i] = slices.Clone(c[:cap(c)])
		}
		overwrite(cut.Join(l))
		for i, c := range l {
			if !bytes.Equal(c[:cap(c)], was[i]) {
				t.Errorf("piece %d of %d changes with what is joined", i, len(l))
			}
		}
	}
}

// Answers hang on nothing but the arguments, whoever else calls.
func TestCallsKnowNothingOfOneAnother(t *testing.T) {
	b := noise(20000)
	want := cutsByWords(b)
	var all sync.WaitGroup
	for range 8 {
		all.Go(func() {
			for i := range 30 {
				cut.First(b[i*100:])
				l := cut.Split(b[i:])
				overwrite(l[0])
				if got := cut.Cuts(b); !slices.Equal(got, want) {
					t.Errorf("Cuts among other calls: %v, not %v", got, want)
				}
				if got := cut.Join(cut.Split(b)); !bytes.Equal(got, b) {
					t.Error("Join of Split among other calls: others")
				}
			}
		})
	}
	all.Wait()
}
