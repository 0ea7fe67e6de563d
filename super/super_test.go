package super_test

import (
	"bytes"
	"encoding/binary"
	"encoding/hex"
	"hash/crc32"
	"math"
	"math/rand"
	"slices"
	"strings"
	"sync"
	"testing"

	"palimpsest/api"
	"palimpsest/disk"
	"palimpsest/key"
	"palimpsest/super"
)

// puts holds Put against the words, and answers what it answered.
func puts(t *testing.T, s api.Super) ([]byte, api.Errno) {
	t.Helper()
	b, e := super.Put(s)
	if want, f := putByWords(s); !bytes.Equal(b, want) || e != f {
		t.Fatalf("Put of %v answers %x, %d instead of %x, %d", s, b, e, want, f)
	}
	return b, e
}

// gets holds Get against the words, and answers what it answered.
func gets(t *testing.T, b []byte) (api.Super, api.Errno) {
	t.Helper()
	s, e := super.Get(b)
	if want, f := getByWords(b); !same(s, want) || e != f {
		t.Fatalf("Get of %d bytes %x answers %v, %d instead of %v, %d", len(b), b[:min(len(b), whole)], s, e, want, f)
	}
	return s, e
}

// chooses holds Choose against the words, and answers what it answered.
func chooses(t *testing.T, a, b []byte) (api.Super, int, api.Errno) {
	t.Helper()
	s, i, e := super.Choose(a, b)
	if want, j, f := chooseByWords(a, b); !same(s, want) || i != j || e != f {
		t.Fatalf("Choose of %x and %x answers %v, %d, %d instead of %v, %d, %d", a, b, s, i, e, want, j, f)
	}
	return s, i, e
}

// nexts holds Next against the words, and answers what it answered.
func nexts(t *testing.T, s api.Super, root api.Key, l []int) (api.Super, api.Errno) {
	t.Helper()
	n, e := super.Next(s, root, l)
	if want, f := nextByWords(s, root, l); !same(n, want) || e != f {
		t.Fatalf("Next of %v, %s, %v answers %v, %d instead of %v, %d", s, root, l[:min(len(l), 100)], n, e, want, f)
	}
	return n, e
}

// put answers the sector of a superblock that may be.
func put(t *testing.T, s api.Super) []byte {
	t.Helper()
	b, e := puts(t, s)
	if e != api.OK {
		t.Fatalf("Put of %v answers %d", s, e)
	}
	return b
}

// count answers the numbers from a to b, rising.
func count(a, b int) []int {
	var l []int
	for i := a; i <= b; i++ {
		l = append(l, i)
	}
	return l
}

// some answers a superblock that may be, by chance.
func some(r *rand.Rand) api.Super {
	s := api.Super{Gen: 1 + r.Intn(last)>>r.Intn(62), Root: key.Of(api.KindRoot, []byte{byte(r.Int()), byte(r.Int())})}
	each := 1 + r.Intn(8)
	for p := range packs {
		if r.Intn(each) == 0 {
			s.Packs = append(s.Packs, p)
		}
	}
	return s
}

// root is one that may be.
func root() api.Key { return key.Of(api.KindRoot, nil) }

// gens are such as may be, at the edges of their bytes.
func gens() []int {
	all := []int{3, 100, 0x0102030405060708, last - 1, last}
	for i := range 62 {
		all = append(all, 1<<i)
		if i > 0 {
			all = append(all, 1<<i-1, 1<<i+1)
		}
	}
	return all
}

// rows are rows of packs that may be.
func rows() [][]int {
	all := [][]int{nil, {}, {0, 1}, {0, 61}, {60, 61}, {0, 1, 5, 61}, {7, 8, 15, 16, 31, 32, 33, 47, 48, 55, 56}, count(0, 61), count(1, 61), count(0, 60), count(30, 40)}
	for p := range packs {
		all = append(all, []int{p})
	}
	return all
}

// wrongGens are such as may not be.
func wrongGens() []int {
	return []int{0, -1, -2, -last, math.MinInt, math.MinInt + 1, math.MinInt32, last + 1, last + 2, math.MaxInt - 1, math.MaxInt}
}

// wrongRoots are no keys.
func wrongRoots() []api.Key {
	k := root()
	return []api.Key{"", "0", " ", k[1:], k[:63], k + "0", k + k, k[:32], " " + k[1:], k[:63] + " ", k[:63] + "g", "/" + k[1:], k[:20] + ":" + k[21:],
		api.Key(strings.ToUpper(string(k))), api.Key(strings.Repeat("A", 64)), api.Key(strings.Repeat("\x00", 64)), api.Key(strings.Repeat("\u00e9", 32)), api.Key(strings.Repeat("\u00e9", 64)), api.Key(strings.Repeat("\xff", 32))}
}

// wrongPacks are rows that have what is no pack.
func wrongPacks() [][]int {
	var all [][]int
	for _, p := range []int{-1, -2, -62, 62, 63, 64, 65, 126, 128, 1 << 32, math.MinInt, math.MinInt + 1, math.MaxInt - 1, math.MaxInt} {
		all = append(all, []int{p}, []int{0, p}, []int{p, 61}, []int{3, p, 5}, append(count(0, 61), p), append([]int{p}, count(0, 61)...))
	}
	return all
}

// wrongRows are rows of packs that do not rise, or have one twice.
func wrongRows() [][]int {
	twice := append(count(0, 61), count(0, 61)...)
	falling := count(0, 61)
	slices.Reverse(falling)
	return [][]int{{0, 0}, {61, 61}, {1, 0}, {61, 0}, {0, 1, 1}, {0, 0, 1}, {0, 2, 1}, {1, 0, 2}, {0, 1, 0}, {5, 6, 7, 7}, {5, 6, 7, 6}, {5, 5, 5}, twice, falling, append(count(0, 61), 61), append(count(0, 61), 0)}
}

// P11.1: Put

func TestPutOfKnownBytes(t *testing.T) {
	for _, c := range []struct {
		s    api.Super
		want string
	}{
		{api.Super{Gen: 3, Root: "e52d9c508c502347344d8c07ad91cbd6068afc75ff6292f062a09ca381c89e71", Packs: []int{0, 1, 5, 61}},
			"504c4d50" + "0300000000000000" + "e52d9c508c502347344d8c07ad91cbd6068afc75ff6292f062a09ca381c89e71" + "2300000000000020" + "dabd38e0"},
		{api.Super{Gen: last, Root: api.Key(strings.Repeat("0", 64))},
			"504c4d50" + "ffffffffffffff3f" + strings.Repeat("00", 32) + "0000000000000000" + "e3d19b36"},
		{api.Super{Gen: 1, Root: "000102030405060708090a0b0c0d0e0f101112131415161718191a1b1c1d1e1f", Packs: count(0, 61)},
			"504c4d50" + "0100000000000000" + "000102030405060708090a0b0c0d0e0f101112131415161718191a1b1c1d1e1f" + "ffffffffffffff3f" + "663eda60"},
	} {
		b, e := super.Put(c.s)
		if got := hex.EncodeToString(b); got != c.want+strings.Repeat("00", 200) || e != api.OK {
			t.Errorf("Put of %v answers %s, %d", c.s, got, e)
		}
	}
}

func TestPut(t *testing.T) {
	for _, gen := range gens() {
		for _, l := range rows() {
			put(t, api.Super{Gen: gen, Root: root(), Packs: l})
		}
	}
	r := rand.New(rand.NewSource(11))
	for range 2000 {
		put(t, some(r))
	}
}

func TestPutRefuses(t *testing.T) {
	refused := func(s api.Super) {
		t.Helper()
		if b, e := puts(t, s); len(b) != 0 || e != api.ErrSuper {
			t.Errorf("Put of %v answers %x, %d", s, b, e)
		}
	}
	refused(api.Super{})
	for _, gen := range wrongGens() {
		refused(api.Super{Gen: gen, Root: root()})
		refused(api.Super{Gen: gen, Root: root(), Packs: []int{1, 2}})
	}
	for _, k := range wrongRoots() {
		refused(api.Super{Gen: 1, Root: k})
		refused(api.Super{Gen: last, Root: k, Packs: []int{0}})
	}
	for _, l := range append(wrongPacks(), wrongRows()...) {
		refused(api.Super{Gen: 1, Root: root(), Packs: l})
		refused(api.Super{Gen: last, Root: root(), Packs: l})
		refused(api.Super{Gen: 0, Root: "", Packs: l})
	}
}

// Of each two and three packs, those that may be and others.
func TestPutOfFewPacks(t *testing.T) {
	some := []int{-1, 0, 1, 2, 60, 61, 62, 63, 64}
	for _, a := range some {
		for _, b := range some {
			puts(t, api.Super{Gen: 1, Root: root(), Packs: []int{a, b}})
			for _, c := range some {
				puts(t, api.Super{Gen: 1, Root: root(), Packs: []int{a, b, c}})
			}
		}
	}
}

// P11.1: Get

func TestGetOfAnyLength(t *testing.T) {
	s := api.Super{Gen: 5, Root: root(), Packs: []int{2, 3}}
	b := put(t, s)
	long := append(slices.Clone(b), make([]byte, 3*whole)...)
	for n := range len(long) + 1 {
		got, e := gets(t, long[:n])
		if n == whole && (!same(got, s) || e != api.OK) || n != whole && e != api.ErrSuper {
			t.Errorf("Get of %d bytes answers %v, %d", n, got, e)
		}
	}
	for _, wrong := range [][]byte{nil, {}, make([]byte, whole), bytes.Repeat([]byte{0xff}, whole), append([]byte{0}, b...)[:whole], append(b[1:], 0), slices.Concat(b, b), make([]byte, 1<<20)} {
		if got, e := gets(t, wrong); e != api.ErrSuper {
			t.Errorf("Get of %d bytes answers %v, %d", len(wrong), got, e)
		}
	}
}

// A sector of which any byte is another one is none.
func TestGetOfEachOtherByte(t *testing.T) {
	for _, s := range []api.Super{
		{Gen: 1, Root: root()},
		{Gen: last, Root: api.Key(strings.Repeat("f", 64)), Packs: count(0, 61)},
	} {
		b := put(t, s)
		for at := range b {
			for x := 1; x < 256; x++ {
				b[at] ^= byte(x)
				if got, e := gets(t, b); e != api.ErrSuper {
					t.Fatalf("Get with the byte %#x at %d answers %v, %d", b[at], at, got, e)
				}
				b[at] ^= byte(x)
			}
		}
	}
}

// Fields that may not be are refused, though the sum is right.
func TestGetOfWrongFields(t *testing.T) {
	right := fieldsOf(api.Super{Gen: 7, Root: root(), Packs: []int{0, 4}})
	if s, e := gets(t, right.sealed()); e != api.OK || s.Gen != 7 {
		t.Fatalf("Get answers %v, %d", s, e)
	}
	refused := func(what string, f fields) {
		t.Helper()
		if s, e := gets(t, f.sealed()); e != api.ErrSuper {
			t.Errorf("Get with %s answers %v, %d", what, s, e)
		}
	}
	for _, mark := range []string{"plmp", "PLMQ", "QLMP", "PMLP", "PLM\x00", "PMLP", "\x00\x00\x00\x00", "PLmP", "PlMP", "LMP "} {
		f := right
		f.mark = mark
		refused("the mark "+mark, f)
	}
	for _, gen := range []uint64{0, last + 1, last + 2, 1<<62 + 7, 1 << 63, 1<<63 - 1, 1<<63 + 1, 1<<63 + 7, 1<<64 - 7, 1<<64 - 1} {
		f := right
		f.gen = gen
		refused("a Gen", f)
	}
	for _, bits := range []uint64{1 << 62, 1 << 63, 1<<62 + 1, 1<<63 + 1<<61, 1<<62 + 1<<63, 1<<64 - 1} {
		f := right
		f.bits = bits
		refused("packs that there are not", f)
	}
}

func TestGetOfRightFields(t *testing.T) {
	f := fields{mark: "PLMP", gen: 9, root: make([]byte, 32)}
	for i := range packs {
		f.gen, f.bits = 1<<i, 1<<(61-i)
		s, e := gets(t, f.sealed())
		if e != api.OK || s.Gen != 1<<i || !slices.Equal(s.Packs, []int{61 - i}) {
			t.Errorf("Get of bit %d answers %v, %d", i, s, e)
		}
	}
	for at := range f.root {
		for x := range 256 {
			f.root[at] = byte(x)
			if s, e := gets(t, f.sealed()); e != api.OK || string(s.Root[2*at:2*at+2]) != hex.EncodeToString([]byte{byte(x)}) {
				t.Fatalf("Get of a root with %#x at %d answers %v, %d", x, at, s, e)
			}
		}
	}
}

// The sum stands there with its lowest byte first, and is that of all ahead of it.
func TestGetOfOtherSums(t *testing.T) {
	b := put(t, api.Super{Gen: 12, Root: root(), Packs: []int{9}})
	for from := range 52 {
		for to := from; to <= 52; to++ {
			if from == 0 && to == 52 {
				continue
			}
			wrong := slices.Clone(b)
			binary.LittleEndian.PutUint32(wrong[52:], crc32.ChecksumIEEE(b[from:to]))
			if s, e := gets(t, wrong); e != api.ErrSuper {
				t.Fatalf("Get with the sum from %d to %d answers %v, %d", from, to, s, e)
			}
		}
	}
	sum := crc32.ChecksumIEEE(b[:52])
	for _, x := range []uint32{0, ^sum, sum + 1, sum - 1, crc32.ChecksumIEEE(b), crc32.Checksum(b[:52], crc32.MakeTable(crc32.Castagnoli))} {
		binary.LittleEndian.PutUint32(b[52:], x)
		if s, e := gets(t, b); e != api.ErrSuper {
			t.Errorf("Get with the sum %#x answers %v, %d", x, s, e)
		}
	}
	binary.BigEndian.PutUint32(b[52:], sum)
	if s, e := gets(t, b); e != api.ErrSuper {
		t.Errorf("Get with the sum's highest byte first answers %v, %d", s, e)
	}
}

// P11.2: Choose

func TestChooseOfTheExamples(t *testing.T) {
	three := put(t, api.Super{Gen: 3, Root: root(), Packs: []int{0}})
	four := put(t, api.Super{Gen: 4, Root: root(), Packs: []int{1}})
	nought := make([]byte, whole)
	if s, i, e := super.Choose(three, four); s.Gen != 4 || s.Root != root() || !slices.Equal(s.Packs, []int{1}) || i != 1 || e != api.OK {
		t.Errorf("Choose of Gen 3 and 4 answers %v, %d, %d", s, i, e)
	}
	if s, i, e := super.Choose(four, three); s.Gen != 4 || s.Root != root() || !slices.Equal(s.Packs, []int{1}) || i != 0 || e != api.OK {
		t.Errorf("Choose of Gen 4 and 3 answers %v, %d, %d", s, i, e)
	}
	if s, i, e := super.Choose(nought, nought); !same(s, api.Super{}) || i != -1 || e != api.ErrSuper {
		t.Errorf("Choose of noughts answers %v, %d, %d", s, i, e)
	}
}

// Each sector beside each: such as are none among them, and some with one Gen and other roots or packs.
func TestChoose(t *testing.T) {
	other := key.Of(api.KindRoot, []byte("other"))
	torn := put(t, api.Super{Gen: 50, Root: root()})
	torn[20] ^= 1
	all := [][]byte{
		nil, {}, make([]byte, whole), bytes.Repeat([]byte{0xff}, whole), torn, torn[:100],
		append(put(t, api.Super{Gen: 50, Root: root()}), 0),
		fields{mark: "PLMP", root: make([]byte, 32)}.sealed(),
		fields{mark: "PLMP", gen: 1 << 62, root: make([]byte, 32)}.sealed(),
		fields{mark: "PLMP", gen: 1<<64 - 1, root: make([]byte, 32)}.sealed(),
	}
	for _, gen := range []int{1, 2, 3, 127, 128, 255, 256, 257, 1 << 31, 1 << 32, 1<<32 + 1, last - 1, last} {
		all = append(all, put(t, api.Super{Gen: gen, Root: root()}), put(t, api.Super{Gen: gen, Root: other, Packs: []int{gen % 61, 61}}))
	}
	for _, a := range all {
		for _, b := range all {
			chooses(t, a, b)
		}
	}
}

func TestChooseOfBothAlike(t *testing.T) {
	a, b := api.Super{Gen: 8, Root: root(), Packs: []int{1}}, api.Super{Gen: 8, Root: key.Of(api.KindRoot, []byte("b")), Packs: []int{2}}
	for _, c := range [][2]api.Super{{a, b}, {b, a}, {a, a}} {
		if s, i, e := super.Choose(put(t, c[0]), put(t, c[1])); !same(s, c[0]) || i != 0 || e != api.OK {
			t.Errorf("Choose answers %v, %d, %d", s, i, e)
		}
	}
}

func TestChooseOfOneAlone(t *testing.T) {
	for _, gen := range gens() {
		s := api.Super{Gen: gen, Root: root(), Packs: []int{gen % packs}}
		b := put(t, s)
		torn := put(t, api.Super{Gen: last, Root: root()})
		torn[whole-1] = 1
		for _, none := range [][]byte{nil, make([]byte, whole), torn, b[:whole-1]} {
			if got, i, e := chooses(t, b, none); !same(got, s) || i != 0 || e != api.OK {
				t.Errorf("Choose of the first alone, Gen %d: %v, %d, %d", gen, got, i, e)
			}
			if got, i, e := chooses(t, none, b); !same(got, s) || i != 1 || e != api.OK {
				t.Errorf("Choose of the second alone, Gen %d: %v, %d, %d", gen, got, i, e)
			}
			if got, i, e := chooses(t, none, torn); !same(got, api.Super{}) || i != -1 || e != api.ErrSuper {
				t.Errorf("Choose without any: %v, %d, %d", got, i, e)
			}
		}
	}
}

// P11.2: Next

func TestNext(t *testing.T) {
	s := api.Super{Gen: 41, Root: root(), Packs: []int{3, 9}}
	other := key.Of(api.KindRoot, []byte("other"))
	for _, c := range []struct{ l, want []int }{
		{nil, nil},
		{[]int{}, nil},
		{[]int{0}, []int{0}},
		{[]int{3, 9}, []int{3, 9}},
		{[]int{9, 3}, []int{3, 9}},
		{[]int{5, 5}, []int{5}},
		{[]int{61, 0, 61, 0, 30}, []int{0, 30, 61}},
		{[]int{2, 10, 1}, []int{1, 2, 10}}, // as numbers
		{slices.Repeat([]int{7, 6}, 1000), []int{6, 7}},
		{append(count(30, 61), count(0, 40)...), count(0, 61)},
	} {
		n, e := nexts(t, s, other, c.l)
		if n.Gen != 42 || n.Root != other || !slices.Equal(n.Packs, c.want) || e != api.OK {
			t.Errorf("Next with %v answers %v, %d", c.l, n, e)
		}
	}
	if n, e := nexts(t, s, s.Root, s.Packs); n.Gen != 42 || n.Root != s.Root || e != api.OK {
		t.Errorf("Next with the same root answers %v, %d", n, e)
	}
}

func TestNextOfEachGen(t *testing.T) {
	for _, gen := range gens() {
		n, e := nexts(t, api.Super{Gen: gen, Root: root()}, root(), []int{1})
		if gen == last {
			if e != api.ErrSuper {
				t.Errorf("Next of the last Gen answers %v, %d", n, e)
			}
		} else if n.Gen != gen+1 || e != api.OK {
			t.Errorf("Next of Gen %d answers %v, %d", gen, n, e)
		}
	}
}

func TestNextRefuses(t *testing.T) {
	right := api.Super{Gen: 4, Root: root(), Packs: []int{1}}
	refused := func(s api.Super, k api.Key, l []int) {
		t.Helper()
		if n, e := nexts(t, s, k, l); !same(n, api.Super{}) || e != api.ErrSuper {
			t.Errorf("Next of %v, %s answers %v, %d", s, k, n, e)
		}
	}
	refused(api.Super{}, root(), nil)
	refused(api.Super{Gen: last, Root: root()}, root(), nil)
	for _, gen := range wrongGens() {
		refused(api.Super{Gen: gen, Root: root()}, root(), nil)
	}
	for _, k := range wrongRoots() {
		refused(right, k, nil)
		refused(api.Super{Gen: 4, Root: k}, root(), nil)
	}
	for _, l := range append(wrongPacks(), wrongRows()...) {
		refused(api.Super{Gen: 4, Root: root(), Packs: l}, root(), nil)
	}
	for _, l := range wrongPacks() {
		refused(right, root(), l)
		refused(right, root(), append(slices.Clone(l), l...))
	}
	for _, l := range wrongRows() { // these are sorted, each once
		if n, e := nexts(t, right, root(), l); e != api.OK {
			t.Errorf("Next with %v answers %v, %d", l, n, e)
		}
	}
}

// P11.3

func TestGetOfPut(t *testing.T) {
	back := func(s api.Super) {
		t.Helper()
		if got, e := gets(t, put(t, s)); !same(got, s) || e != api.OK {
			t.Fatalf("Get of Put of %v answers %v, %d", s, got, e)
		}
	}
	for _, gen := range gens() {
		for _, l := range rows() {
			back(api.Super{Gen: gen, Root: root(), Packs: l})
		}
	}
	r := rand.New(rand.NewSource(3))
	for range 2000 {
		back(some(r))
	}
}

// What is read is written as it was.
func TestPutOfGet(t *testing.T) {
	r := rand.New(rand.NewSource(4))
	for range 2000 {
		b := fieldsOf(some(r)).sealed()
		s, e := gets(t, b)
		if again, f := super.Put(s); e != api.OK || f != api.OK || !bytes.Equal(again, b) {
			t.Fatalf("Put of Get of %x answers %x, %d, %d", b, again, e, f)
		}
	}
}

func TestNextIsChosen(t *testing.T) {
	r := rand.New(rand.NewSource(5))
	for range 1000 {
		s, like := some(r), some(r)
		if s.Gen == last {
			continue
		}
		n, e := nexts(t, s, like.Root, like.Packs)
		if e != api.OK {
			t.Fatalf("Next of %v answers %d", s, e)
		}
		old, now := put(t, s), put(t, n)
		if got, i, e := chooses(t, old, now); !same(got, n) || i != 1 || e != api.OK {
			t.Fatalf("Choose of %v and its Next answers %v, %d, %d", s, got, i, e)
		}
		if got, i, e := chooses(t, now, old); !same(got, n) || i != 0 || e != api.OK {
			t.Fatalf("Choose of the Next of %v and it answers %v, %d, %d", s, got, i, e)
		}
	}
}

// Two sectors of a device, of which the one that does not count is written: whatever is left of a write, what was switched last, or this, is chosen.
func TestSwitchOnADevice(t *testing.T) {
	d, e := disk.New(2, nil)
	if e != api.OK {
		t.Fatal(e)
	}
	both := func() (api.Super, int, api.Errno) {
		a, _ := d.Read(0)
		b, _ := d.Read(1)
		return chooses(t, a, b)
	}
	s := api.Super{Gen: 1, Root: root()}
	d.Write(0, put(t, s))
	d.Flush()
	r := rand.New(rand.NewSource(6))
	for i := range 200 {
		old, at, e := both()
		if e != api.OK || !same(old, s) {
			t.Fatalf("at %d %v, %d is chosen, not %v", i, old, e, s)
		}
		like := some(r)
		n, _ := nexts(t, old, like.Root, like.Packs)
		d.Write(1-at, put(t, n))
		if r.Intn(2) == 0 {
			d.Crash(nil)
			d.Start()
			continue
		}
		d.Flush()
		s = n
	}
}

// The rules that hold everywhere.

// What is handed in stays, and what stands behind its end is nobody's.
func TestArgumentsStay(t *testing.T) {
	room := []int{9, 3, 3, 70, -1, 5}
	was := slices.Clone(room)
	s := api.Super{Gen: 6, Root: root(), Packs: room[1:2]}
	b := put(t, s)
	if n, e := nexts(t, s, root(), room[:3]); !slices.Equal(n.Packs, []int{3, 9}) || e != api.OK {
		t.Errorf("Next answers %v, %d", n, e)
	}
	if n, e := nexts(t, s, root(), room); e != api.ErrSuper {
		t.Errorf("Next answers %v, %d", n, e)
	}
	if !slices.Equal(room, was) {
		t.Errorf("packs that were handed in have changed: %v", room)
	}
	wide := append(slices.Clone(b), bytes.Repeat([]byte{0xaa}, whole)...)
	torn := slices.Clone(wide)
	gets(t, wide[:whole])
	chooses(t, wide[:whole], wide[:whole])
	chooses(t, wide[:whole], wide[whole:])
	if !bytes.Equal(wide, torn) {
		t.Error("bytes that were handed in have changed")
	}
}

// Answers are the caller's own.
func TestAnswersAreNewMemory(t *testing.T) {
	l := []int{0, 1, 2}
	s := api.Super{Gen: 2, Root: root(), Packs: l}
	b, again := put(t, s), put(t, s)
	clear(b)
	if want, _ := putByWords(s); !bytes.Equal(again, want) {
		t.Error("a sector changes with another one")
	}
	b = append(put(t, s), 1, 2, 3)[:whole]
	got, _ := super.Get(b)
	other, _ := super.Get(b)
	chosen, _, _ := super.Choose(b, b)
	next, _ := super.Next(s, root(), l)
	third, _ := super.Next(s, root(), s.Packs)
	for _, x := range []api.Super{got, chosen, next} {
		for i := range x.Packs {
			x.Packs[i] = 50
		}
		_ = append(x.Packs, 51, 52)
	}
	clear(b)
	if !slices.Equal(l, []int{0, 1, 2}) || !slices.Equal(other.Packs, l) || !slices.Equal(third.Packs, l) {
		t.Errorf("answers are bound together: %v, %v, %v", l, other, third)
	}
	l[0] = 9
	if third.Packs[0] != 0 || other.Root != root() {
		t.Errorf("answers change with what was handed in: %v, %v", third, other)
	}
}

// However many packs are handed in, the call ends soon.
func TestNextOfManyPacks(t *testing.T) {
	s := api.Super{Gen: 1, Root: root()}
	many := make([]int, 1<<20)
	for i := range many {
		many[i] = (i * 7) % packs
	}
	if n, e := super.Next(s, root(), many); !slices.Equal(n.Packs, count(0, 61)) || e != api.OK {
		t.Errorf("Next answers %v, %d", n, e)
	}
	many[len(many)-1] = packs
	if n, e := super.Next(s, root(), many); !same(n, api.Super{}) || e != api.ErrSuper {
		t.Errorf("Next answers %v, %d", n, e)
	}
}

// Answers hang on nothing but the arguments, whoever else calls.
func TestCallsKnowNothingOfOneAnother(t *testing.T) {
	var all sync.WaitGroup
	for i := range 8 {
		all.Go(func() {
			r := rand.New(rand.NewSource(int64(i)))
			for range 200 {
				s := some(r)
				b, e := super.Put(s)
				got, at, f := super.Choose(nil, b)
				if !same(got, s) || at != 1 || e != api.OK || f != api.OK {
					t.Errorf("among other calls %v is %v, %d, %d, %d", s, got, at, e, f)
				}
			}
		})
	}
	all.Wait()
}
