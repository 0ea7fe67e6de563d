package key_test

import (
	"bytes"
	"crypto/sha256"
	"encoding/hex"
	"math"
	"math/big"
	"math/rand"
	"slices"
	"strings"
	"sync"
	"testing"

	"palimpsest/api"
	"palimpsest/key"
)

const (
	size   = 32
	length = 64
)

// noise answers n bytes without order, the same ones each time.
func noise(n int) []byte {
	b := make([]byte, n)
	rand.New(rand.NewSource(int64(n))).Read(b)
	return b
}

// digest answers the key of a kind from 0 to 255 and bytes, by the library.
func digest(kind byte, b []byte) api.Key {
	d := sha256.Sum256(append([]byte{kind}, b...))
	return api.Key(hex.EncodeToString(d[:]))
}

// refused answers texts that are no keys, one after another for each reason.
func refused() []api.Key {
	right := digest(1, []byte("right"))
	all := []api.Key{
		"", "0", "00", "-", "6e340b9c", " ", "\x00",
		right[:length-1], right[:length-2], right[1:], right + "0", right + "00", "0" + right, right + right,
		right[:size],
		right + "\n", right + " ", " " + right[1:], right[:length-1] + " ", right[:length-1] + "\n", right[:length-1] + "\x00",
		"0x" + right[2:], "0X" + right[2:], "-" + right[1:], "+" + right[1:], right[:10] + "_" + right[11:],
		api.Key(strings.ToUpper(string(right))),
		api.Key(strings.Repeat("A", length)),
		api.Key(strings.Repeat("\u00e9", size)), // 64 bytes
		api.Key(strings.Repeat("\u00e9", length)),
		api.Key(strings.Repeat("\uff11", length)), // digits, but none of 0 to 9
		api.Key(strings.Repeat("\xff", length)),
		api.Key(strings.Repeat("\x00", length)),
		api.Key(sha256Of("right")),
		api.Key(strings.Repeat("0", 1<<16)),
	}
	for _, at := range []int{0, 1, 2, 31, 32, 33, 62, 63} {
		for _, c := range []string{"/", ":", "@", "A", "F", "G", "`", "g", "z", " ", ".", "\x00", "\x7f", "\x80", "\xff"} {
			all = append(all, right[:at]+api.Key(c)+right[at+1:])
		}
	}
	return all
}

// sha256Of answers a digest's bytes as a text: 32 of them, no digits.
func sha256Of(s string) string {
	d := sha256.Sum256([]byte(s))
	return string(d[:])
}

// P7.1: Of

func TestOf(t *testing.T) {
	for _, c := range []struct {
		kind int
		s    string
		k    api.Key
	}{
		{0, "", "6e340b9cffb37a989ca544e6bb780a2c78901d3fb33738768511a30617afa01d"},
		// The kind is a byte ahead of the others: these are the digests of abc, and of 56 bytes that FIPS 180-4 has.
		{'a', "bc", "ba7816bf8f01cfea414140de5dae2223b00361a396177a9cb410ff61f20015ad"},
		{'a', "bcdbcdecdefdefgefghfghighijhijkijkljklmklmnlmnomnopnopq", "248d6a61d20638b8e5c026930c3e6039a33ce45964ff2167f6ecedd419db06c1"},
		{'a' + 256, "bc", "ba7816bf8f01cfea414140de5dae2223b00361a396177a9cb410ff61f20015ad"},
		{'a' - 256, "bc", "ba7816bf8f01cfea414140de5dae2223b00361a396177a9cb410ff61f20015ad"},
		{256, "", "6e340b9cffb37a989ca544e6bb780a2c78901d3fb33738768511a30617afa01d"},
		{-256, "", "6e340b9cffb37a989ca544e6bb780a2c78901d3fb33738768511a30617afa01d"},
	} {
		if k := key.Of(c.kind, []byte(c.s)); k != c.k {
			t.Errorf("Of(%d, %q): %s, not %s", c.kind, c.s, k, c.k)
		}
	}
}

func TestOfByTheLibrary(t *testing.T) {
	for _, n := range []int{0, 1, 2, 31, 32, 54, 55, 56, 62, 63, 64, 65, 118, 119, 127, 128, 1000, 2048, api.MaxRecord, api.MaxFile, 1 << 20} {
		for kind := range 5 {
			if k := key.Of(kind, noise(n)); k != digest(byte(kind), noise(n)) {
				t.Errorf("Of kind %d and %d bytes: %s", kind, n, k)
			}
		}
	}
	if key.Of(api.KindMeta, nil) != key.Of(api.KindMeta, []byte{}) {
		t.Error("nothing has two keys")
	}
}

// modulo answers what is left of a number, divided by 256: from 0 on, of numbers below 0 too.
func modulo(x int) byte {
	left := new(big.Int).Mod(big.NewInt(int64(x)), big.NewInt(256))
	return byte(left.Int64())
}

func TestOfAnyKind(t *testing.T) {
	kinds := []int{math.MinInt, math.MinInt + 1, math.MinInt32, -1 << 16, 1 << 16, 1 << 40, 1<<40 + 7, math.MaxInt32, math.MaxInt - 1, math.MaxInt}
	for kind := -600; kind <= 600; kind++ {
		kinds = append(kinds, kind)
	}
	for _, kind := range kinds {
		if k := key.Of(kind, []byte("abc")); k != digest(modulo(kind), []byte("abc")) {
			t.Errorf("Of kind %d: %s", kind, k)
		}
	}
}

func TestOfTellsKindsAndBytesApart(t *testing.T) {
	met := map[api.Key]int{}
	for kind := range 256 {
		met[key.Of(kind, nil)]++
		met[key.Of(kind, []byte{0})]++
		met[key.Of(kind, []byte{0, 0})]++
		met[key.Of(kind, []byte{byte(kind)})]++
	}
	if want := 4*256 - 1; len(met) != want { // kind 0 has the byte 0 twice
		t.Errorf("%d keys, not %d", len(met), want)
	}
}

// P7.1: Check

func TestCheck(t *testing.T) {
	for _, k := range []api.Key{
		digest(0, nil),
		digest(4, []byte("root")),
		api.Key(strings.Repeat("0", length)),
		api.Key(strings.Repeat("9", length)),
		api.Key(strings.Repeat("a", length)),
		api.Key(strings.Repeat("f", length)),
		api.Key(strings.Repeat("0123456789abcdef", 4)),
		api.Key(strings.Repeat("fedcba9876543210", 4)),
	} {
		if !key.Check(k) {
			t.Errorf("Check(%q): false", k)
		}
	}
	for _, k := range refused() {
		if key.Check(k) {
			t.Errorf("Check(%q): true", k)
		}
	}
}

// Of each byte at each place: 16 digits, and no others.
func TestCheckOfEachByte(t *testing.T) {
	right := []byte(digest(2, []byte("a node")))
	for at := range length {
		for c := range 256 {
			b := slices.Clone(right)
			b[at] = byte(c)
			want := c >= '0' && c <= '9' || c >= 'a' && c <= 'f'
			if key.Check(api.Key(b)) != want {
				t.Fatalf("Check with the byte %#x at %d: %v", c, at, !want)
			}
		}
	}
}

func TestCheckOfEachLength(t *testing.T) {
	for n := range 3 * length {
		if key.Check(api.Key(strings.Repeat("a", n))) != (n == length) {
			t.Errorf("Check of %d digits: %v", n, n != length)
		}
	}
}

// P7.1: Bytes and From

func TestBytes(t *testing.T) {
	for _, n := range []int{0, 1, 2, 3, 100, 1000} {
		want := sha256.Sum256(noise(n))
		k := api.Key(hex.EncodeToString(want[:]))
		if b, e := key.Bytes(k); !bytes.Equal(b, want[:]) || e != api.OK {
			t.Errorf("Bytes(%s): %x, %d", k, b, e)
		}
	}
	k := "00" + "01" + "0f" + "10" + "9a" + "a9" + "f0" + "ff" + strings.Repeat("00", 23) + "7e"
	want := slices.Concat([]byte{0x00, 0x01, 0x0f, 0x10, 0x9a, 0xa9, 0xf0, 0xff}, make([]byte, 23), []byte{0x7e})
	if b, e := key.Bytes(api.Key(k)); !bytes.Equal(b, want) || e != api.OK {
		t.Errorf("Bytes(%s): %x, %d", k, b, e)
	}
}

func TestBytesRefuses(t *testing.T) {
	for _, k := range refused() {
		if b, e := key.Bytes(k); len(b) != 0 || e != api.ErrKey {
			t.Errorf("Bytes(%q): %x, %d", k, b, e)
		}
	}
}

// Each byte at each place has its two digits, the higher one ahead.
func TestFromOfEachByte(t *testing.T) {
	for at := range size {
		for c := range 256 {
			b := make([]byte, size)
			b[at] = byte(c)
			k, e := key.From(b)
			want := api.Key(hex.EncodeToString(b))
			if k != want || e != api.OK {
				t.Fatalf("From(%x): %q, %d", b, k, e)
			}
			if back, e := key.Bytes(want); !bytes.Equal(back, b) || e != api.OK {
				t.Fatalf("Bytes(%s): %x, %d", want, back, e)
			}
		}
	}
}

func TestFromRefuses(t *testing.T) {
	for n := range 3 * length {
		if n == size {
			continue
		}
		if k, e := key.From(noise(n)); k != "" || e != api.ErrKey {
			t.Errorf("From %d bytes: %q, %d", n, k, e)
		}
	}
	for _, b := range [][]byte{nil, make([]byte, 1<<20), []byte(digest(1, nil))} {
		if k, e := key.From(b); k != "" || e != api.ErrKey {
			t.Errorf("From %d bytes: %q, %d", len(b), k, e)
		}
	}
}

// P7.2: Sort

// sorted takes the least of what is left, as often as there is one above the last.
func sorted(l []api.Key) []api.Key {
	var out []api.Key
	for {
		var least *api.Key
		for i, k := range l {
			if (len(out) == 0 || k > out[len(out)-1]) && (least == nil || k < *least) {
				least = &l[i]
			}
		}
		if least == nil {
			return out
		}
		out = append(out, *least)
	}
}

func TestSort(t *testing.T) {
	low, high := api.Key(strings.Repeat("0", length)), api.Key(strings.Repeat("f", length))
	nine, ten := "9"+low[1:], "a"+low[1:]
	for _, c := range []struct{ l, want []api.Key }{
		{nil, nil},
		{[]api.Key{}, nil},
		{[]api.Key{low}, []api.Key{low}},
		{[]api.Key{low, low}, []api.Key{low}},
		{[]api.Key{low, low, low, low}, []api.Key{low}},
		{[]api.Key{low, high}, []api.Key{low, high}},
		{[]api.Key{high, low}, []api.Key{low, high}},
		{[]api.Key{high, low, high, low}, []api.Key{low, high}},
		{[]api.Key{high, low, low}, []api.Key{low, high}},
		{[]api.Key{high, high, low}, []api.Key{low, high}},
		// The first digit counts most, and letters come behind numbers.
		{[]api.Key{ten, high, nine, low}, []api.Key{low, nine, ten, high}},
		{[]api.Key{low[1:] + "2", "1" + low[1:], low[1:] + "1"}, []api.Key{low[1:] + "1", low[1:] + "2", "1" + low[1:]}},
		// What may be no key is sorted likewise: capitals ahead of small ones, the shorter ahead of what goes on from it.
		{[]api.Key{"b", "", "a", ""}, []api.Key{"", "a", "b"}},
		{[]api.Key{"ab", "a", "B", "10", "9", "a"}, []api.Key{"10", "9", "B", "a", "ab"}},
		{[]api.Key{"a\x00", "a", "\x00a"}, []api.Key{"\x00a", "a", "a\x00"}},
		{[]api.Key{"\u00e9", "z", "\U00010000", "\uffff", "z"}, []api.Key{"z", "\u00e9", "\uffff", "\U00010000"}},
		{[]api.Key{"\xff", "a", "\x80", "\xff"}, []api.Key{"a", "\x80", "\xff"}},
		{[]api.Key{low + "0", low, low[1:]}, []api.Key{low[1:], low, low + "0"}},
	} {
		if got := key.Sort(c.l); !slices.Equal(got, c.want) {
			t.Errorf("Sort(%q): %q, not %q", c.l, got, c.want)
		}
	}
}

func TestSortOfAllRows(t *testing.T) {
	letters := []api.Key{digest(1, nil), digest(2, nil), digest(3, nil), ""}
	rows := [][]api.Key{nil}
	for i := 0; i < len(rows); i++ {
		if len(rows[i]) < 6 {
			for _, k := range letters {
				rows = append(rows, append(slices.Clone(rows[i]), k))
			}
		}
		if got, want := key.Sort(rows[i]), sorted(rows[i]); !slices.Equal(got, want) {
			t.Fatalf("Sort(%q): %q, not %q", rows[i], got, want)
		}
	}
}

func TestSortOfLongRows(t *testing.T) {
	chance := rand.New(rand.NewSource(7))
	for _, n := range []int{10, 100, 500} {
		var l []api.Key
		for range n {
			l = append(l, digest(1, []byte{byte(chance.Intn(n/2 + 1))}))
		}
		if got, want := key.Sort(l), sorted(l); !slices.Equal(got, want) {
			t.Errorf("Sort of %d keys: %d, not %d", n, len(got), len(want))
		}
	}
}

func TestSortOfManyKeys(t *testing.T) {
	var l, want []api.Key
	for i := range 100000 {
		l = append(l, digest(1, []byte{byte(i), byte(i >> 8)}))
	}
	want = slices.Clone(l)
	slices.Sort(want)
	want = slices.Compact(want)
	if got := key.Sort(l); !slices.Equal(got, want) || len(got) != 1<<16 {
		t.Errorf("Sort of %d keys: %d, not %d", len(l), len(got), len(want))
	}
}

// P7.2: Find

func TestFind(t *testing.T) {
	a, b, c := digest(1, []byte("a")), digest(1, []byte("b")), digest(1, []byte("c"))
	for _, x := range []struct {
		l  []api.Key
		k  api.Key
		at int
	}{
		{nil, a, -1},
		{[]api.Key{}, a, -1},
		{nil, "", -1},
		{[]api.Key{a}, a, 0},
		{[]api.Key{a}, b, -1},
		{[]api.Key{a, b, c}, a, 0},
		{[]api.Key{a, b, c}, b, 1},
		{[]api.Key{a, b, c}, c, 2},
		// A row need not rise: whatever stands ahead, the first one is told.
		{[]api.Key{c, b, a}, a, 2},
		{[]api.Key{c, b, a}, c, 0},
		{[]api.Key{b, a, b, a}, a, 1},
		{[]api.Key{a, a, a}, a, 0},
		{[]api.Key{c, a, b}, "", -1},
		// What may be no key is found likewise.
		{[]api.Key{a, "", ""}, "", 1},
		{[]api.Key{"x", a}, "x", 0},
		{[]api.Key{a, a[:length-1], a + "0"}, a + "0", 2},
		{[]api.Key{a[:length-1], a + "0", a[1:]}, a, -1},
		{[]api.Key{api.Key(strings.ToUpper(string(a)))}, a, -1},
		{[]api.Key{"\xff"}, "\ufffd", -1},
	} {
		if at := key.Find(x.l, x.k); at != x.at {
			t.Errorf("Find(%q, %q): %d, not %d", x.l, x.k, at, x.at)
		}
	}
}

func TestFindInALongRow(t *testing.T) {
	var l []api.Key
	for i := range 3000 {
		l = append(l, digest(1, []byte{byte(i), byte(i >> 8)}))
	}
	twice := append(slices.Clone(l), l...)
	for i, k := range l {
		if at := key.Find(l, k); at != i {
			t.Fatalf("Find in a row that does not rise: %d, not %d", at, i)
		}
		if at := key.Find(twice, k); at != i {
			t.Fatalf("Find in a row that has all twice: %d, not %d", at, i)
		}
	}
	if at := key.Find(twice, digest(2, nil)); at != -1 {
		t.Errorf("Find of a key that is not there: %d", at)
	}
}

// P7.3

func TestFromOfBytes(t *testing.T) {
	for n := range 200 {
		k := key.Of(n%5, noise(n))
		b, e := key.Bytes(k)
		if e != api.OK || len(b) != size || !key.Check(k) {
			t.Fatalf("Bytes(%q): %x, %d", k, b, e)
		}
		if back, e := key.From(b); back != k || e != api.OK {
			t.Errorf("From(%x): %q, %d, not %q", b, back, e, k)
		}
	}
}

func TestBytesOfFrom(t *testing.T) {
	for n := range 200 {
		want := noise(n + size)[n:]
		k, e := key.From(want)
		if e != api.OK || !key.Check(k) {
			t.Fatalf("From(%x): %q, %d", want, k, e)
		}
		if b, e := key.Bytes(k); !bytes.Equal(b, want) || e != api.OK {
			t.Errorf("Bytes(%q): %x, %d, not %x", k, b, e, want)
		}
	}
}

// The rules that hold everywhere.

// What is handed in stays, and what stands behind its end is nobody's.
func TestArgumentsStay(t *testing.T) {
	room := noise(200)
	was := slices.Clone(room)
	if k := key.Of(3, room[:50]); k != digest(3, was[:50]) {
		t.Errorf("Of bytes with room behind them: %s", k)
	}
	if k, e := key.From(room[:size]); k != api.Key(hex.EncodeToString(was[:size])) || e != api.OK {
		t.Errorf("From bytes with room behind them: %s, %d", k, e)
	}
	if k, e := key.From(room[:size-1]); k != "" || e != api.ErrKey {
		t.Errorf("From too few bytes with room behind them: %s, %d", k, e)
	}
	if !bytes.Equal(room, was) {
		t.Error("bytes that were handed in have changed")
	}
	a, b, c := digest(1, nil), digest(2, nil), digest(3, nil)
	all := []api.Key{c, a, c, b, a, b}
	keys := slices.Clone(all)
	if got := key.Sort(all[:3]); !slices.Equal(got, sorted([]api.Key{a, c})) {
		t.Errorf("Sort of keys with room behind them: %q", got)
	}
	if at := key.Find(all[:3], b); at != -1 {
		t.Errorf("Find in keys with room behind them: %d", at)
	}
	if !slices.Equal(all, keys) {
		t.Errorf("keys that were handed in have changed: %q", all)
	}
}

// Answers are the caller's own.
func TestAnswersAreNewMemory(t *testing.T) {
	a, b := digest(1, nil), digest(2, nil)
	first, second := min(a, b), max(a, b)
	for _, l := range [][]api.Key{{a}, {first, second}, {second, first}, {a, a, b}} {
		was := slices.Clone(l)
		got := key.Sort(l)
		want := slices.Clone(got)
		for i := range got {
			got[i] = "x"
		}
		_ = append(got, "y")
		if !slices.Equal(l, was) {
			t.Errorf("%q changes with what was answered", was)
		}
		if again := key.Sort(l); !slices.Equal(again, want) {
			t.Errorf("Sort(%q): %q, not %q again", l, again, want)
		}
	}
	d, _ := key.Bytes(a)
	d[0] ^= 0xff
	if again, _ := key.Bytes(a); bytes.Equal(again, d) {
		t.Error("the bytes of a key change with those that were answered")
	}
	in := noise(size)
	k, _ := key.From(in)
	in[0] ^= 0xff
	if k != api.Key(hex.EncodeToString(noise(size))) {
		t.Error("a key changes with the bytes that were handed in")
	}
}

// Answers hang on nothing but the arguments, whoever else calls.
func TestCallsKnowNothingOfOneAnother(t *testing.T) {
	var l []api.Key
	for i := range 300 {
		l = append(l, digest(1, []byte{byte(i * 7)}))
	}
	want := sorted(l)
	var all sync.WaitGroup
	for range 8 {
		all.Go(func() {
			for i := range 50 {
				if got := key.Sort(l); !slices.Equal(got, want) {
					t.Errorf("Sort among other calls: %d keys, not %d", len(got), len(want))
				}
				if k := key.Of(i, noise(i)); k != digest(byte(i), noise(i)) {
					t.Errorf("Of among other calls: %s", k)
				}
			}
		})
	}
	all.Wait()
}
