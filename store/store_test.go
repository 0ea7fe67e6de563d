package store_test

import (
	"bytes"
	"fmt"
	"math"
	"math/rand"
	"slices"
	"strings"
	"sync"
	"testing"

	"palimpsest/api"
	"palimpsest/disk"
	"palimpsest/store"
)

// unopened answers stores that Open did not give.
func unopened() map[string]*store.Store {
	return map[string]*store.Store{"nil": nil, "a zero value": {}, "new": new(store.Store)}
}

func TestExample(t *testing.T) {
	x := fresh(t, 2)
	k := x.put(1, []byte("twice"))
	if again := x.put(1, []byte("twice")); again != k || len(x.s.Index()) != 1 {
		t.Errorf("put twice: %s and %s, %v", k, again, x.s.Index())
	}
	x.ok(x.commits(k))
	x.put(1, []byte("not committed"))
	y := x.again()
	if root, gen := y.s.Root(); root != k || gen != 1 {
		t.Errorf("opened anew: %s, Gen %d", root, gen)
	}
	if b, e := y.s.Get(1, k); e != api.OK || string(b) != "twice" {
		t.Errorf("opened anew: Get answers %q, %d", b, e)
	}
}

// P15.1: Open

// As many packs as there are sectors for behind the two superblocks; two at least, and no more than there may be.
func TestOpenCountsSlots(t *testing.T) {
	for _, lower := range []int{0, 1, 2, 63, 64, 100} {
		for _, n := range []int{0, 1, 2, 65, 66, 128, 129, 130, 131, 193, 194, 195, 257, 258, 2 + 64*62 - 1, 2 + 64*62, 2 + 64*62 + 1, 4096} {
			n = min(n, 4096-lower)
			if n+lower == 0 {
				continue
			}
			x, e := opens(t, loaded(t, make([]byte, sector*(lower+n)), lower))
			if n < bareMin {
				if e != api.ErrArg {
					t.Errorf("of %d sectors, %d lower: %d", n+lower, lower, e)
				}
				continue
			}
			if want := min((n-2)/64, 62); e != api.OK || x.s.Free() != want {
				t.Errorf("of %d sectors, %d lower: %d, %d free slots instead of %d", n+lower, lower, e, x.s.Free(), want)
			}
		}
	}
}

func TestOpenOfNoDevice(t *testing.T) {
	for _, d := range []*disk.Device{nil, {}, new(disk.Device)} {
		if s, e := store.Open(d); s != nil || e != api.ErrArg {
			t.Errorf("Open of no device answers a store: %v, %d", s != nil, e)
		}
	}
}

func TestOpenWithoutPower(t *testing.T) {
	d := device(t, 3, 2)
	d.Crash(nil)
	if _, e := opens(t, d); e != api.ErrDead {
		t.Errorf("without power: %d", e)
	}
	d.Start()
	opened(t, d)
	small := loaded(t, make([]byte, sector*(bareMin-1)), 0)
	small.Crash(nil)
	if _, e := opens(t, small); e != api.ErrArg {
		t.Errorf("too small, and without power: %d", e)
	}
}

// A fresh store has nothing, whatever the packs' sectors, and the lower ones, have.
func TestOpenFresh(t *testing.T) {
	for _, lower := range []int{0, 1, 7} {
		image := noise(lower + 2 + 3*sectors)
		copy(image[sector*(lower+2):], framed(1, []byte("a record that nobody needs")))
		clear(image[sector*lower:][:2*sector])
		x := opened(t, loaded(t, image, lower))
		if root, gen := x.s.Root(); root != "" || gen != 0 || len(x.s.Packs()) != 0 || len(x.s.Index()) != 0 || x.s.Free() != 3 {
			t.Errorf("fresh: root %q, Gen %d, packs %v, %d entries, %d free", root, gen, x.s.Packs(), len(x.s.Index()), x.s.Free())
		}
	}
}

// One byte that is no nought, and it is not fresh.
func TestOpenOfNoSuperblock(t *testing.T) {
	d := device(t, 1, 2)
	for at := range 2 * sector {
		image := d.Image()
		image[sector+at] = 1 << (at % 8)
		if _, e := opens(t, loaded(t, image, 1)); e != api.ErrSuper {
			t.Fatalf("with byte %d: %d", at, e)
		}
	}
	if _, e := opens(t, loaded(t, noise(1+bareMin), 1)); e != api.ErrSuper {
		t.Errorf("of noise: %d", e)
	}
}

// with answers a device of which the superblocks are those, with those packs' bytes.
func with(t *testing.T, a, b []byte, packs ...[]byte) *disk.Device {
	t.Helper()
	const lower = 2
	image := noise(lower + 2 + 4*sectors)
	clear(image[sector*lower:][:2*sector])
	copy(image[sector*lower:], a)
	copy(image[sector*(lower+1):], b)
	for n, p := range packs {
		copy(image[sector*(lower+2+n*sectors):], p)
	}
	return loaded(t, image, lower)
}

// row answers the bytes of records, and noughts behind them.
func row(l ...[]byte) []byte { return append(bytes.Join(l, nil), make([]byte, 8)...) }

func TestOpenChooses(t *testing.T) {
	k, l := keyByWords(1, []byte("one")), keyByWords(2, []byte("two"))
	of := func(gen int, root api.Key, packs ...int) []byte { return blocked(block{gen, root, packs}) }
	broken := of(9, k, 0)
	broken[20] ^= 1
	nought := make([]byte, sector)
	for _, c := range []struct {
		a, b  []byte
		gen   int
		root  api.Key
		packs []int
	}{
		{of(1, k, 0), nought, 1, k, []int{0}},
		{nought, of(1, k, 0), 1, k, []int{0}},
		{of(3, k, 0), of(4, l, 0, 1), 4, l, []int{0, 1}},
		{of(4, k, 1), of(3, l, 0), 4, k, []int{1}},
		{of(5, k, 0), of(5, l, 1), 5, k, []int{0}},
		{of(8, k, 0), broken, 8, k, []int{0}},
		{broken, of(8, k, 2), 8, k, []int{2}},
		{of(1, k), nought, 1, k, nil},
		{of(lastGen, k), of(lastGen-1, l), lastGen, k, nil},
		{of(2, l, 0, 1, 2, 3), nought, 2, l, []int{0, 1, 2, 3}},
	} {
		x := opened(t, with(t, c.a, c.b, row(framed(1, []byte("one"))), row(framed(2, []byte("two")))))
		if root, gen := x.s.Root(); gen != c.gen || root != c.root || !slices.Equal(x.s.Packs(), c.packs) || x.s.Free() != 4-len(c.packs) {
			t.Errorf("Gen %d, %s, packs %v, %d free instead of %d, %s, %v", gen, root, x.s.Packs(), x.s.Free(), c.gen, c.root, c.packs)
		}
		x.all()
	}
}

// A superblock that counts tells of packs that are none: it is not that the other one counts then.
func TestOpenOfPacksThatAreNone(t *testing.T) {
	k := keyByWords(1, []byte("one"))
	for n := range 62 {
		for _, packs := range [][]int{{n}, {0, n}} {
			d := with(t, blocked(block{3, k, slices.Compact(packs)}), blocked(block{2, k, []int{0}}), row(framed(1, []byte("one"))))
			want := api.OK
			if n > 3 {
				want = api.ErrSuper
			}
			if _, e := opens(t, d); e != want {
				t.Errorf("of packs %v of four: %d instead of %d", packs, e, want)
			}
		}
	}
	opened(t, with(t, blocked(block{3, k, []int{0}}), blocked(block{2, k, []int{0, 4}}), row(framed(1, []byte("one")))))
}

// The superblocks and the packs are read as the cache has them.
func TestOpenReadsWhatTheCacheHas(t *testing.T) {
	d := device(t, 1, 2)
	k := keyByWords(3, []byte("cached"))
	x := &both{T: t, d: d}
	s := make([]byte, sector)
	copy(s, framed(3, []byte("cached")))
	x.write(3+sectors, s)
	x.write(2, blocked(block{7, k, []int{1}}))
	y := opened(t, d)
	if root, gen := y.s.Root(); root != k || gen != 7 {
		t.Errorf("%s, Gen %d", root, gen)
	}
	y.all()
}

// Of each key the first record counts, by rising packs, then places.
func TestOpenTakesTheFirstRecords(t *testing.T) {
	a, b, c, e := framed(1, []byte("a")), framed(2, []byte("b")), framed(3, bytes.Repeat([]byte("c"), 400)), framed(4, nil)
	root := keyByWords(1, []byte("a"))
	x := opened(t, with(t, blocked(block{1, root, []int{1, 2, 3}}), nil, row(a, b, c, e), row(b, c, b), row(c, a, b, a), row(e, e, c, a)))
	want := map[api.Key]api.Entry{
		keyByWords(1, []byte("a")):                    {Pack: 2, Off: len(c), Size: len(a)},
		keyByWords(2, []byte("b")):                    {Pack: 1, Off: 0, Size: len(b)},
		keyByWords(3, bytes.Repeat([]byte("c"), 400)): {Pack: 1, Off: len(b), Size: len(c)},
		keyByWords(4, nil):                            {Pack: 3, Off: 0, Size: len(e)},
	}
	l := x.s.Index()
	if len(l) != len(want) {
		t.Fatalf("%d entries instead of %d", len(l), len(want))
	}
	for _, got := range l {
		k := got.Key
		got.Key = ""
		if got != want[k] {
			t.Errorf("%.9s: %v instead of %v", k, got, want[k])
		}
	}
	if used := x.s.Used(2); used != len(c)+2*len(a)+len(b) || x.s.Used(0) != 0 {
		t.Errorf("%d bytes, %d bytes of a pack that is none", used, x.s.Used(0))
	}
	x.all()
}

// What is torn is not read, nor what stands behind it; and it is written over.
func TestOpenOfTornPacks(t *testing.T) {
	a, b, c := framed(1, []byte("first")), framed(2, bytes.Repeat([]byte("b"), 600)), framed(3, []byte("third"))
	root := keyByWords(1, []byte("first"))
	for at := 0; at < len(a)+len(b); at += 7 {
		torn := row(a, b, c)
		torn[at] ^= 1 << (at % 8)
		x := opened(t, with(t, blocked(block{1, root, []int{0}}), nil, torn))
		if want := min(at/len(a), 1); len(x.s.Index()) != want {
			t.Fatalf("with byte %d turned: %d entries instead of %d", at, len(x.s.Index()), want)
		}
		k := x.put(2, []byte("behind it"))
		x.ok(x.commits(k))
		x.again().all()
	}
}

func TestOpenOfFullPacks(t *testing.T) {
	full := bytes.Join([][]byte{framed(1, filling(1, 8000)), framed(1, filling(2, 8000)), framed(1, filling(3, 384))}, nil)
	x := opened(t, with(t, blocked(block{1, keyByWords(1, nil), []int{0, 2}}), nil, full, nil, full))
	if len(x.s.Index()) != 3 || x.s.Used(0) != whole || x.s.Used(2) != whole {
		t.Errorf("%d entries, %d and %d bytes", len(x.s.Index()), x.s.Used(0), x.s.Used(2))
	}
	x.all()
	x.fill(4, 7)
	if !slices.Equal(x.s.Packs(), []int{0, 1, 2}) && !slices.Equal(x.s.Packs(), []int{0, 2, 3}) {
		t.Errorf("packs %v", x.s.Packs())
	}
}

// P15.1: what Open did not give

func TestOfNoStore(t *testing.T) {
	k := keyByWords(1, nil)
	for what, s := range unopened() {
		for range 2 {
			if root, gen := s.Root(); root != "" || gen != 0 {
				t.Errorf("Root of %s answers %q, %d", what, root, gen)
			}
			if k, e := s.Put(1, nil); k != "" || e != api.ErrNil {
				t.Errorf("Put of %s answers %q, %d", what, k, e)
			}
			if k, e := s.Put(0, nil); k != "" || e != api.ErrNil {
				t.Errorf("Put of %s, kind 0, answers %q, %d", what, k, e)
			}
			if b, e := s.Get(1, k); len(b) != 0 || e != api.ErrNil {
				t.Errorf("Get of %s answers %v, %d", what, b, e)
			}
			if e, f, g, h := s.Commit(k), s.Move(k, nil), s.Drop(0), s.Refer(k, 1); e != api.ErrNil || f != api.ErrNil || g != api.ErrNil || h != api.ErrNil {
				t.Errorf("Commit, Move, Drop, Refer of %s answer %d, %d, %d, %d", what, e, f, g, h)
			}
			if l, p := s.Index(), s.Packs(); len(l) != 0 || len(p) != 0 || s.Free() != 0 || s.Used(0) != 0 {
				t.Errorf("of %s: %v, %v, %d, %d", what, l, p, s.Free(), s.Used(0))
			}
		}
	}
}

// P15.2: Put

func TestPut(t *testing.T) {
	x := fresh(t, 2)
	for kind := 1; kind <= 4; kind++ {
		for _, data := range [][]byte{nil, {}, {0}, []byte("short"), bytes.Repeat([]byte{1}, 127), bytes.Repeat([]byte{1}, 128), bytes.Repeat([]byte{2}, 1000)} {
			k := x.put(kind, data)
			if k != keyByWords(kind, data) {
				t.Errorf("the key of kind %d, %d bytes is %q", kind, len(data), k)
			}
			if b, e := x.gets(kind, k); e != api.OK || !bytes.Equal(b, data) {
				t.Errorf("Get of kind %d, %d bytes answers %d bytes, %d", kind, len(data), len(b), e)
			}
		}
	}
	if n := len(x.s.Index()); n != 4*6 {
		t.Errorf("%d entries", n)
	}
	if !slices.Equal(x.s.Packs(), []int{0}) && !slices.Equal(x.s.Packs(), []int{1}) || x.s.Free() != 1 {
		t.Errorf("packs %v, %d slots free: there was room in one pack", x.s.Packs(), x.s.Free())
	}
	x.all()
}

func TestPutOfTheLongest(t *testing.T) {
	x := fresh(t, 2)
	for kind := 1; kind <= 4; kind++ {
		x.notPut(kind, make([]byte, longest+1), api.ErrFrame)
		x.notPut(kind, make([]byte, 3*longest), api.ErrFrame)
	}
	k := x.put(4, make([]byte, longest))
	x.all()
	x.put(4, make([]byte, longest-1))
	x.ok(x.commits(k))
	x.again().all()
}

func TestPutOfNoKind(t *testing.T) {
	x := fresh(t, 2)
	x.put(1, []byte("a"))
	for _, kind := range []int{0, 5, 6, -1, -2, 255, 256, 257, 258, 260, -255, -252, 1<<32 + 1, math.MinInt, math.MinInt + 1, math.MaxInt} {
		for _, n := range []int{0, 1, longest, longest + 1} {
			x.notPut(kind, make([]byte, n), api.ErrFrame)
		}
		// Its key, by its kind modulo 256, may be there.
		x.notPut(kind, []byte("a"), api.ErrFrame)
	}
}

// What the index has is not written again, wherever it is, whatever is cached.
func TestPutAgain(t *testing.T) {
	x := fresh(t, 2)
	k := x.put(2, []byte("once"))
	x.put(2, []byte("once"))
	x.ok(x.refers(k, 5))
	x.put(2, []byte("once"))
	x.ok(x.commits(k))
	x.put(2, []byte("once"))
	x = x.again()
	x.put(2, []byte("once"))
	if x.s.Used(x.s.Packs()[0]) != len(framed(2, []byte("once"))) {
		t.Errorf("it was written again: %d bytes", x.s.Used(0))
	}
	x.put(3, []byte("once"))
	if len(x.s.Index()) != 2 {
		t.Errorf("of another kind it is another one: %v", x.s.Index())
	}
}

// A pack has room up to its last byte, and just then there is one more.
func TestPutFillsPacks(t *testing.T) {
	x := fresh(t, 3)
	x.fill(1, 8000)
	x.fill(2, 8000)
	x.fill(3, 385)
	if len(x.s.Packs()) != 2 {
		t.Errorf("of 16385 bytes: packs %v", x.s.Packs())
	}
	x.fill(4, 384)
	if len(x.s.Packs()) != 2 {
		t.Errorf("384 bytes fit in the first pack: packs %v", x.s.Packs())
	}
	x.fill(5, 8000)
	x.fill(6, 7999)
	if len(x.s.Packs()) != 2 || x.s.Used(0)+x.s.Used(1)+x.s.Used(2) != 2*whole {
		t.Errorf("%d bytes fit in two packs: packs %v", 2*whole, x.s.Packs())
	}
	x.fill(7, 7)
	if len(x.s.Packs()) != 3 || x.s.Free() != 0 {
		t.Errorf("one more: packs %v, %d free", x.s.Packs(), x.s.Free())
	}
	x.all()
	x.ok(x.commits(keyByWords(1, filling(7, 7))))
	x.again().all()
}

func TestPutOfFullPacks(t *testing.T) {
	x := fresh(t, 2)
	for c := range byte(2) {
		x.fill(10+c, 8150)
		x.fill(20+c, 8150)
	}
	x.notPut(1, filling(30, 85), api.ErrFull)
	x.notPut(1, make([]byte, longest), api.ErrFull)
	x.notPut(1, make([]byte, longest+1), api.ErrFrame)
	x.put(1, filling(10, 8150))
	x.fill(40, 84)
	x.fill(41, 83)
	x.notPut(1, nil, api.ErrFull)
	x.all()
	x.ok(x.commits(keyByWords(1, filling(40, 84))))
	x = x.again()
	x.all()
	x.notPut(1, nil, api.ErrFull)
}

// All slots of the greatest device.
func TestPutOfAllThatFits(t *testing.T) {
	d := loaded(t, make([]byte, sector*4096), 0)
	s, _ := store.Open(d)
	var root api.Key
	for n := range 2 * 62 {
		k, e := s.Put(1+n%4, bytes.Repeat([]byte{byte(n)}, 8183))
		if e != api.OK || k != keyByWords(1+n%4, bytes.Repeat([]byte{byte(n)}, 8183)) {
			t.Fatalf("Put %d answers %s, %d", n, k, e)
		}
		root = k
	}
	if k, e := s.Put(1, []byte("one more")); k != "" || e != api.ErrFull || s.Free() != 0 || len(s.Packs()) != 62 {
		t.Errorf("Put of one more answers %q, %d, %d free, packs %v", k, e, s.Free(), s.Packs())
	}
	if e := s.Commit(root); e != api.OK {
		t.Errorf("Commit answers %d", e)
	}
	d.Crash(nil)
	d.Start()
	again, e := store.Open(d)
	if e != api.OK || !slices.Equal(again.Index(), s.Index()) || len(again.Index()) != 124 || again.Free() != 0 {
		t.Errorf("opened anew: %d, %d entries, %d free", e, len(again.Index()), again.Free())
	}
	for n := range 2 * 62 {
		data := bytes.Repeat([]byte{byte(n)}, 8183)
		if b, e := again.Get(1+n%4, keyByWords(1+n%4, data)); e != api.OK || !bytes.Equal(b, data) {
			t.Errorf("Get %d answers %d bytes, %d", n, len(b), e)
		}
	}
}

// As many small records as fit in some packs.
func TestPutOfManySmallOnes(t *testing.T) {
	d := device(t, 0, 8)
	s, _ := store.Open(d)
	n := 0
	for {
		if _, e := s.Put(1, fmt.Appendf(nil, "%8d", n)); e != api.OK {
			if e != api.ErrFull {
				t.Fatalf("Put %d answers %d", n, e)
			}
			break
		}
		n++
	}
	l := s.Index()
	if n != 8*(whole/15) || len(l) != n || !slices.IsSortedFunc(l, func(e, f api.Entry) int { return strings.Compare(string(e.Key), string(f.Key)) }) {
		t.Fatalf("%d were put, %d entries", n, len(l))
	}
	for i := range n {
		data := fmt.Appendf(nil, "%8d", i)
		if b, e := s.Get(1, keyByWords(1, data)); e != api.OK || !bytes.Equal(b, data) {
			t.Fatalf("Get of %q answers %q, %d", data, b, e)
		}
	}
}

// P15.2: Get

func TestGetOfNoKey(t *testing.T) {
	x := fresh(t, 2)
	k := x.put(1, []byte("there"))
	for _, l := range []api.Key{"", "0", "there", keyByWords(1, nil), keyByWords(2, []byte("there")), k[:63], k + "0", api.Key(strings.ToUpper(string(k)))} {
		for kind := -1; kind < 6; kind++ {
			x.notGot(kind, l, api.ErrNone)
		}
	}
	x.gets(1, k)
}

func TestGetOfAnotherKind(t *testing.T) {
	x := fresh(t, 2)
	for kind := 1; kind <= 4; kind++ {
		k := x.put(kind, []byte("there"))
		for _, other := range []int{0, 1, 2, 3, 4, 5, -1, 256 + kind, kind - 256, math.MinInt, math.MaxInt} {
			if other != kind {
				x.notGot(other, k, api.ErrObj)
			}
		}
		x.gets(kind, k)
	}
}

// Each byte of a record is asked for, and no other one.
func TestGetOfBytesThatAreNotThere(t *testing.T) {
	x := fresh(t, 2)
	x.fill(1, 300)
	k := x.fill(2, 400)
	x.fill(3, 200)
	x.ok(x.commits(k))
	e := x.w.index[k]
	for at := range 1024 {
		s := x.w.at(e.Pack) + at/sector
		b, _ := x.d.Read(s)
		was := bytes.Clone(b)
		b[at%sector] ^= 1 << (at % 8)
		x.write(s, b)
		want := api.OK
		if at >= 300 && at < 700 {
			want = api.ErrHash
		}
		if _, got := x.gets(1, k); got != want {
			t.Fatalf("with byte %d turned Get answers %d", at, got)
		}
		x.write(s, was)
	}
	x.all()
	x.notGot(2, k, api.ErrObj)
}

// A record of another key, that is whole, is not what is asked for.
func TestGetWhereAnotherRecordIs(t *testing.T) {
	x := fresh(t, 2)
	k := x.put(1, []byte("mine"))
	at := x.w.at(x.s.Packs()[0])
	for _, b := range [][]byte{framed(1, []byte("your")), framed(2, []byte("mine")), framed(1, []byte("mi")), framed(1, nil)} {
		s := make([]byte, sector)
		copy(s, b)
		x.write(at, s)
		x.notGot(1, k, api.ErrHash)
	}
	s := make([]byte, sector)
	copy(s, framed(1, []byte("mine")))
	x.write(at, s)
	x.all()
}

func TestGetWithoutPower(t *testing.T) {
	x := fresh(t, 2)
	k := x.put(1, []byte("there"))
	x.ok(x.commits(k))
	x.d.Crash(nil)
	x.notGot(1, keyByWords(1, nil), api.ErrNone)
	x.notGot(2, k, api.ErrObj)
	x.notGot(1, k, api.ErrDead)
	x.d.Start()
	x.all()
	x.notPut(1, []byte("behind it"), api.ErrDead)
}

// P15.2: Refer

func TestRefer(t *testing.T) {
	const many = 1 << 31
	x := fresh(t, 2)
	k, l := x.put(1, []byte("k")), x.put(2, []byte("l"))
	for _, by := range []int{0, 1, 2, -1, -2, many, -1, 1, -many, many, -many + 1, -1} {
		x.ok(x.refers(k, by))
	}
	x.ok(x.refers(l, 3))
	for _, by := range []int{-1, -2, many + 1, -many, 1 << 32, math.MinInt, math.MinInt + 1, math.MaxInt, math.MaxInt - 1, -1 << 32} {
		x.no(x.refers(k, by), api.ErrArg)
	}
	x.no(x.refers(l, many-2), api.ErrArg)
	x.ok(x.refers(l, many-3))
	x.no(x.refers(l, 1), api.ErrArg)
	for _, none := range []api.Key{"", "k", keyByWords(1, nil), k[1:]} {
		for _, by := range []int{0, 1, -1, math.MaxInt} {
			x.no(x.refers(none, by), api.ErrNone)
		}
	}
	if e := x.s.Index(); e[0].Refs+e[1].Refs != many {
		t.Errorf("%v", e)
	}
}

// Refs are not on the device.
func TestRefsAreForgotten(t *testing.T) {
	x := fresh(t, 2)
	k := x.put(1, []byte("k"))
	x.ok(x.refers(k, 3))
	x.ok(x.commits(k))
	if l := x.s.Index(); l[0].Refs != 3 {
		t.Errorf("behind a Commit: %v", l)
	}
	if l := x.again().s.Index(); l[0].Refs != 0 {
		t.Errorf("opened anew: %v", l)
	}
}

// P15.3: Commit

// The superblocks are written by turns, from the first one on.
func TestCommit(t *testing.T) {
	for _, lower := range []int{0, 1, 5} {
		x := opened(t, device(t, lower, 5))
		for gen := 1; gen < 9; gen++ {
			k := x.fill(byte(gen), 7000)
			x.ok(x.commits(k))
			at := lower + (gen+1)%2
			if b, _ := x.d.Read(at); !bytes.Equal(b, blocked(block{gen, k, x.s.Packs()})) {
				t.Fatalf("Gen %d is not in sector %d", gen, at)
			}
			if gen == 6 {
				x.drops(x.s.Packs()[1])
			}
			if gen%3 == 0 {
				x = x.again()
			}
		}
	}
}

// The same root again, or another one that was there before.
func TestCommitAgain(t *testing.T) {
	x := fresh(t, 2)
	k, l := x.put(1, []byte("k")), x.put(4, []byte("l"))
	for _, root := range []api.Key{k, k, l, k} {
		x.ok(x.commits(root))
	}
	if root, gen := x.again().s.Root(); root != k || gen != 4 {
		t.Errorf("%s, Gen %d", root, gen)
	}
}

// Over the one that does not count, whichever of them that is.
func TestCommitOverTheOther(t *testing.T) {
	k := keyByWords(1, []byte("k"))
	of := func(gen int) []byte { return blocked(block{gen, k, []int{0}}) }
	torn := of(9)
	torn[0] ^= 1
	for _, c := range []struct {
		a, b []byte
		over int
	}{
		{of(1), nil, 1}, {nil, of(1), 0}, {of(3), of(4), 0}, {of(4), of(3), 1}, {of(5), of(5), 1}, {torn, of(2), 0}, {of(2), torn, 1}, {of(1), of(100), 0},
	} {
		x := opened(t, with(t, c.a, c.b, row(framed(1, []byte("k")))))
		_, gen := x.s.Root()
		x.ok(x.commits(k))
		b, _ := x.d.Read(2 + c.over)
		if s := unblocked(b); s.gen != gen+1 || s.root != k {
			t.Errorf("Gen %d is not in the superblock %d", gen+1, c.over)
		}
		x.ok(x.commits(k))
		x.again()
	}
}

func TestCommitOfNoRoot(t *testing.T) {
	x := fresh(t, 2)
	x.no(x.commits(""), api.ErrNone)
	k := x.put(1, []byte("k"))
	for _, none := range []api.Key{"", "k", keyByWords(2, []byte("k")), k[:63], k + "0"} {
		x.no(x.commits(none), api.ErrNone)
	}
	x.ok(x.commits(k))
	x.no(x.commits(keyByWords(1, nil)), api.ErrNone)
	x.ok(x.drops(x.s.Packs()[0]))
	x.no(x.commits(k), api.ErrNone)
	if root, gen := x.s.Root(); root != k || gen != 1 {
		t.Errorf("the root is %s, Gen %d", root, gen)
	}
}

func TestCommitOfTheLastGen(t *testing.T) {
	k := keyByWords(1, []byte("k"))
	x := opened(t, with(t, blocked(block{lastGen - 1, k, []int{0}}), nil, row(framed(1, []byte("k")))))
	x.ok(x.commits(k))
	x.no(x.commits(k), api.ErrSuper)
	x.no(x.commits(keyByWords(2, nil)), api.ErrNone)
	x.put(2, nil)
	x.no(x.commits(keyByWords(2, nil)), api.ErrSuper)
	x.d.Arm(0)
	x.no(x.commits(k), api.ErrSuper)
	x.notPut(3, nil, api.ErrDead)
	x.no(x.commits(k), api.ErrSuper)
	if root, gen := x.again().s.Root(); root != k || gen != lastGen {
		t.Errorf("the root is %s, Gen %d", root, gen)
	}
}

// P15.3: Move

func TestMove(t *testing.T) {
	x := fresh(t, 3)
	k := x.fill(1, 9)
	l := x.fill(2, 700)
	own := x.w.index[k].Pack
	x.ok(x.refers(k, 4))
	x.ok(x.moves(k))
	to := x.w.index[k].Pack
	if e := x.w.index[k]; to == own || e.Refs != 4 || x.s.Used(own) != 709 || x.s.Used(to) != 9 {
		t.Errorf("moved to %v, %d bytes there, %d where it was", e, x.s.Used(to), x.s.Used(own))
	}
	x.all()
	x.ok(x.moves(l))
	if x.w.index[l].Pack != to || len(x.s.Packs()) != 2 {
		t.Errorf("there was room in pack %d: packs %v", to, x.s.Packs())
	}
	x.ok(x.moves(l, to, own))
	x.ok(x.moves(k, own))
	x.ok(x.moves(k))
	x.all()
	x.ok(x.commits(k))
	x.again().all()
}

// Neither to a pack of those, nor to a slot of those; what is no slot's number is of no matter.
func TestMoveNotTo(t *testing.T) {
	for own := range 4 {
		x := fresh(t, 4)
		k := x.fill(1, 9)
		for x.w.index[k].Pack != own {
			x.ok(x.moves(k))
			x.ok(x.drops(x.w.packs()[0] ^ x.w.index[k].Pack ^ x.w.packs()[len(x.w.packs())-1]))
		}
		var others []int
		for n := range 4 {
			if n != own {
				others = append(others, n)
			}
		}
		x.ok(x.commits(k))
		x.no(x.moves(k, others...), api.ErrFull)
		x.no(x.moves(k, 0, 1, 2, 3), api.ErrFull)
		x.no(x.moves(k, slices.Concat(others, others, []int{-1, 4, 62, math.MinInt, math.MaxInt})...), api.ErrFull)
		x.ok(x.moves(k, slices.Concat(others[1:], []int{own, own, -1, 4, 61, 62, -4, math.MinInt, math.MaxInt})...))
		if x.w.index[k].Pack != others[0] {
			t.Errorf("moved to %d instead of %d", x.w.index[k].Pack, others[0])
		}
		x.all()
	}
}

func TestMoveOfNoKey(t *testing.T) {
	x := fresh(t, 2)
	k := x.put(1, []byte("k"))
	for _, none := range []api.Key{"", "k", keyByWords(2, []byte("k")), k[:63], k + "0"} {
		x.no(x.moves(none), api.ErrNone)
		x.no(x.moves(none, 0, 1), api.ErrNone)
	}
	x.ok(x.drops(x.s.Packs()[0]))
	x.no(x.moves(k), api.ErrNone)
}

// What was let go is neither a pack nor free.
func TestMoveOfFullPacks(t *testing.T) {
	x := fresh(t, 3)
	k := x.fill(1, 8000)
	own := x.w.index[k].Pack
	x.fill(2, 8000)
	x.fill(3, 8000)
	x.fill(4, 8000)
	other := x.w.packs()[0] ^ x.w.packs()[1] ^ own
	x.fill(5, 8000)
	third := 3 - own - other
	x.ok(x.drops(third))
	x.no(x.moves(k), api.ErrFull)
	x.ok(x.commits(k))
	x.no(x.moves(k, third), api.ErrFull)
	x.ok(x.moves(k))
	x.no(x.moves(k), api.ErrFull)
	x.all()
}

func TestMoveOfBytesThatAreNotThere(t *testing.T) {
	x := fresh(t, 2)
	k := x.fill(1, 600)
	l := x.fill(2, 100)
	x.ok(x.commits(k))
	at := x.w.at(x.w.index[k].Pack)
	b, _ := x.d.Read(at + 1)
	b[7] ^= 4
	x.write(at+1, b)
	x.no(x.moves(k), api.ErrHash)
	x.no(x.moves(k, 0, 1), api.ErrFull)
	x.no(x.moves(keyByWords(1, nil)), api.ErrNone)
	x.ok(x.moves(l))
	if len(x.s.Packs()) != 2 || x.w.index[l].Pack == x.w.index[k].Pack {
		t.Errorf("packs %v", x.s.Packs())
	}
	x.no(x.moves(k), api.ErrHash)
	x.d.Arm(0)
	x.no(x.moves(k), api.ErrHash)
	x.notPut(1, nil, api.ErrDead)
	x.d.Start()
	x.no(x.moves(k), api.ErrDead)
	x.no(x.moves(k, 0, 1), api.ErrFull)
}

// P15.3: Drop

func TestDrop(t *testing.T) {
	x := fresh(t, 3)
	k := x.fill(1, 8000)
	l := x.fill(2, 8000)
	m := x.fill(3, 8000)
	own, other := x.w.index[k].Pack, x.w.index[m].Pack
	for _, none := range []int{-1, 3 - own - other, 3, 61, 62, 64, 64 + own, math.MinInt, math.MaxInt} {
		x.no(x.drops(none), api.ErrPack)
	}
	x.ok(x.moves(k, 3-own-other))
	x.ok(x.drops(own))
	if x.s.Used(own) != 0 || x.s.Free() != 1 || !slices.Equal(x.s.Packs(), []int{other}) {
		t.Errorf("%d bytes, %d free, packs %v", x.s.Used(own), x.s.Free(), x.s.Packs())
	}
	x.no(x.drops(own), api.ErrPack)
	x.notGot(1, l, api.ErrNone)
	if b, e := x.gets(1, k); e != api.OK || !bytes.Equal(b, filling(1, 8000)) {
		t.Errorf("what was moved is %d bytes, %d", len(b), e)
	}
	x.ok(x.commits(m))
	if x.s.Free() != 2 {
		t.Errorf("behind the Commit %d are free", x.s.Free())
	}
	x.no(x.drops(own), api.ErrPack)
	x = x.again()
	x.notGot(1, l, api.ErrNone)
	x.no(x.drops(own), api.ErrPack)
	x.ok(x.drops(other))
	x.no(x.commits(m), api.ErrNone)
}

// A slot is free just behind a Commit that is OK: a stop ahead of it has the pack again.
func TestDropFreesBehindACommit(t *testing.T) {
	x := fresh(t, 2)
	k := x.fill(1, 8100)
	x.fill(2, 8100)
	l := x.fill(3, 8100)
	x.fill(4, 8100)
	x.ok(x.commits(k))
	x.ok(x.drops(x.w.index[l].Pack))
	x.notPut(1, filling(5, 8000), api.ErrFull)
	x.no(x.commits(l), api.ErrNone)
	x.notPut(1, filling(5, 8000), api.ErrFull)
	x = x.again()
	if len(x.s.Index()) != 4 || len(x.s.Packs()) != 2 {
		t.Errorf("%d entries, packs %v", len(x.s.Index()), x.s.Packs())
	}
	x.all()
	x.ok(x.drops(x.w.index[l].Pack))
	x.ok(x.commits(k))
	m := x.fill(5, 8000)
	x.all()
	x.ok(x.commits(m))
	x = x.again()
	if len(x.s.Index()) != 3 {
		t.Errorf("%d entries", len(x.s.Index()))
	}
	x.all()
}

// A Commit within which the power goes frees nothing.
func TestDropFreesNothingBehindARefusedCommit(t *testing.T) {
	for n := range 3 {
		x := fresh(t, 2)
		k := x.fill(1, 8100)
		x.fill(2, 8100)
		l := x.fill(3, 8100)
		x.ok(x.commits(k))
		x.ok(x.drops(x.w.index[l].Pack))
		x.d.Arm(n)
		x.no(x.commits(k), api.ErrDead)
		x.d.Start()
		x.no(x.commits(k), api.ErrDead)
		x.notPut(1, filling(5, 8000), api.ErrFull)
		x = x.again()
		if len(x.s.Packs()) != 2 {
			t.Errorf("at write %d: packs %v", n, x.s.Packs())
		}
	}
}

// All packs may go, one that was never committed too.
func TestDropOfAll(t *testing.T) {
	x := fresh(t, 2)
	k := x.fill(1, 9000-1000)
	x.fill(2, 8000)
	l := x.fill(3, 500)
	x.ok(x.drops(x.w.index[l].Pack))
	x.ok(x.drops(x.w.index[k].Pack))
	if len(x.s.Index()) != 0 || len(x.s.Packs()) != 0 || x.s.Free() != 0 {
		t.Errorf("%v, packs %v, %d free", x.s.Index(), x.s.Packs(), x.s.Free())
	}
	x.notPut(1, nil, api.ErrFull)
	x.no(x.commits(k), api.ErrNone)
	x = x.again()
	if x.s.Free() != 2 {
		t.Errorf("opened anew: %d free", x.s.Free())
	}
}

// What was let go with its pack is written again, if it is put.
func TestPutOfWhatWasLetGo(t *testing.T) {
	x := fresh(t, 2)
	k := x.put(1, []byte("again"))
	x.ok(x.refers(k, 3))
	own := x.w.index[k].Pack
	x.ok(x.drops(own))
	x.put(1, []byte("again"))
	if e := x.w.index[k]; e.Pack == own || e.Refs != 0 {
		t.Errorf("%v", e)
	}
	x.ok(x.commits(k))
	x.again().all()
}

// P15.3: behind ErrDead

// deaths answers each way to ErrDead, on a store that has the key k, and room.
func deaths() map[string]func(x *both, k api.Key) api.Errno {
	put := func(n int) func(x *both, k api.Key) api.Errno {
		return func(x *both, k api.Key) api.Errno {
			x.d.Arm(n)
			_, e := x.puts(2, make([]byte, 1000))
			return e
		}
	}
	commit := func(n int) func(x *both, k api.Key) api.Errno {
		return func(x *both, k api.Key) api.Errno { x.d.Arm(n); return x.commits(k) }
	}
	move := func(n int) func(x *both, k api.Key) api.Errno {
		return func(x *both, k api.Key) api.Errno { x.d.Arm(n); return x.moves(k) }
	}
	return map[string]func(x *both, k api.Key) api.Errno{
		"Put, at the first write": put(0), "Put, at the last one": put(3),
		"Commit, ahead of the first flush": commit(0), "Commit, ahead of the superblock": commit(1), "Commit, ahead of the last flush": commit(2),
		"Move, at the first write": move(0), "Move, at the last one": move(3),
		"Put without power":    func(x *both, k api.Key) api.Errno { x.d.Crash(nil); _, e := x.puts(2, nil); return e },
		"Commit without power": func(x *both, k api.Key) api.Errno { x.d.Crash(nil); return x.commits(k) },
		"Move without power":   func(x *both, k api.Key) api.Errno { x.d.Crash(nil); return x.moves(k) },
		"Get without power":    func(x *both, k api.Key) api.Errno { x.d.Crash(nil); _, e := x.gets(1, k); return e },
	}
}

// All that would write answers ErrDead from then on, with power too, and nothing is written; what writes nothing goes on.
func TestBehindErrDead(t *testing.T) {
	for what, dies := range deaths() {
		for _, committed := range []bool{false, true} {
			for _, power := range []bool{false, true} {
				x := fresh(t, 3)
				k := x.fill(1, 1000)
				if committed {
					x.ok(x.commits(k))
				}
				if e := dies(x, k); e != api.ErrDead {
					t.Fatalf("%s answers %d", what, e)
				}
				writes := x.d.Writes()
				if power {
					x.d.Start()
				}
				for range 2 {
					x.notPut(1, []byte("new"), api.ErrDead)
					x.notPut(0, []byte("new"), api.ErrFrame)
					x.notPut(5, []byte("new"), api.ErrFrame)
					x.notPut(1, make([]byte, longest+1), api.ErrFrame)
					x.no(x.commits(k), api.ErrDead)
					x.no(x.commits(""), api.ErrNone)
					x.no(x.moves(k), api.ErrDead)
					x.no(x.moves(k, 0, 1, 2), api.ErrFull)
					x.no(x.moves(""), api.ErrNone)
					x.put(1, filling(1, 1000))
					x.gets(1, k)
					x.ok(x.refers(k, 1))
					x.no(x.drops(9), api.ErrPack)
				}
				x.ok(x.drops(x.w.index[k].Pack))
				if x.d.Writes() != writes {
					t.Fatalf("%s: %d writes behind it", what, x.d.Writes()-writes)
				}
				x.again()
			}
		}
	}
}

// Nothing is left of a pack that was to be begun without power, or was not begun wholly.
func TestPutOfAPackThatIsNotBegun(t *testing.T) {
	for n := -1; n < 5; n++ {
		x := fresh(t, 2)
		if n < 0 {
			x.d.Crash(nil)
		}
		x.d.Arm(n)
		x.notPut(1, make([]byte, 1024), api.ErrDead)
		if len(x.s.Packs()) != 0 || x.s.Free() != 2 {
			t.Errorf("at write %d: packs %v, %d free", n, x.s.Packs(), x.s.Free())
		}
		x.d.Start()
		x.notPut(1, nil, api.ErrDead)
		x.again(x.d.Cached()...).put(1, nil)
	}
}

// What was refused changes nothing: that there was room stays so, in the one pack that there is room in.
func TestRoomBehindErrDead(t *testing.T) {
	for n := range 3 {
		x := fresh(t, 2)
		k := x.fill(1, 8192)
		x.fill(2, 8192)
		x.fill(3, 8192)
		x.d.Arm(n)
		x.notPut(1, make([]byte, 600), api.ErrDead)
		for range 2 {
			x.notPut(1, make([]byte, 600), api.ErrDead)
			x.notPut(1, make([]byte, 8180), api.ErrDead)
			x.notPut(1, make([]byte, 8185), api.ErrFull)
			x.no(x.moves(k), api.ErrDead)
			x.d.Start()
		}
	}
}

// Where there is no room, it is that which is told, dead or not.
func TestErrFullAheadOfErrDead(t *testing.T) {
	x := fresh(t, 2)
	for c := range byte(4) {
		x.fill(c, 8192)
	}
	k := keyByWords(1, filling(0, 8192))
	x.d.Crash(nil)
	for range 2 {
		x.notPut(1, nil, api.ErrFull)
		x.no(x.moves(k), api.ErrFull)
		x.no(x.commits(k), api.ErrDead)
		x.d.Start()
	}
}

// P15.4

// subsets answers choices among sectors: all of them, if there are few, else none, all, just the last one, all but that, and some by chance.
func subsets(r *rand.Rand, l []int) [][]int {
	var choices [][]int
	if len(l) <= 4 {
		for x := range 1 << len(l) {
			choices = append(choices, chosen(l, func(i int) bool { return x>>i&1 == 1 }))
		}
		return choices
	}
	last := len(l) - 1
	choices = append(choices, nil, l, l[last:], l[:last])
	for range 4 {
		choices = append(choices, chosen(l, func(int) bool { return r.Intn(2) == 0 }))
	}
	return choices
}

func chosen(l []int, is func(i int) bool) []int {
	var c []int
	for i, x := range l {
		if is(i) {
			c = append(c, x)
		}
	}
	return c
}

// torn answers what is left of a device, if of what the cache has just that of the sectors in keep is left; the device stays as it is.
func torn(t *testing.T, d *disk.Device, keep []int) *disk.Device {
	t.Helper()
	image := d.Image()
	for _, at := range keep {
		b, e := d.Read(at)
		if e != api.OK {
			t.Fatalf("Read of %d answers %d", at, e)
		}
		copy(image[sector*at:], b)
	}
	_, lower := d.Size()
	return loaded(t, image, lower)
}

// story does what a collector, and those whom it serves, would; each step tells whether it went well.
func story() []func(x *both) bool {
	put := func(c byte, n int) func(x *both) bool {
		return func(x *both) bool { _, e := x.puts(1, filling(c, n)); return e == api.OK }
	}
	commit := func(c byte, n int) func(x *both) bool {
		return func(x *both) bool { return x.commits(keyByWords(1, filling(c, n))) == api.OK }
	}
	move := func(c byte, n int) func(x *both) bool {
		return func(x *both) bool { return x.moves(keyByWords(1, filling(c, n))) == api.OK }
	}
	drop := func(c byte, n int) func(x *both) bool {
		return func(x *both) bool {
			// That which has what was not moved.
			e := x.w.index[keyByWords(1, filling(c, n))]
			return x.drops(e.Pack) == api.OK
		}
	}
	return []func(x *both) bool{
		put(1, 300), put(2, 468), commit(1, 300),
		put(3, 8000), commit(3, 8000), put(4, 7000), put(5, 1500), put(6, 512), commit(5, 1500),
		move(1, 300), move(3, 8000), drop(2, 468), put(7, 256), commit(1, 300),
		put(8, 8000), put(9, 700), commit(9, 700), commit(1, 300),
		move(5, 1500), drop(6, 512), put(10, 400), commit(10, 400), put(11, 1000), commit(11, 1000), put(12, 300),
	}
}

// tell does a story up to where the power goes, and tells whether it went.
func (x *both) tell(steps []func(x *both) bool) bool {
	for _, does := range steps {
		if !does(x) {
			if x.on() {
				x.Fatal("the story ends, and the power has not gone")
			}
			return true
		}
	}
	return false
}

// old answers a device whose packs have records of an older store's in each sector: none of them is taken for one that was put.
func old(t *testing.T, packs int) *disk.Device {
	image := make([]byte, sector*(2+sectors*packs))
	for at := 2 * sector; at < len(image); at += sector {
		copy(image[at:], framed(2, fmt.Appendf(nil, "%249d", at)))
	}
	return loaded(t, image, 0)
}

// Whenever the power goes, at each write, whatever is left; and it goes on from there, to the next stop.
func TestWheneverThePowerGoes(t *testing.T) {
	chances := rand.New(rand.NewSource(1))
	for _, made := range []func() *disk.Device{func() *disk.Device { return device(t, 1, 3) }, func() *disk.Device { return old(t, 3) }} {
		n := 0
		for {
			x := opened(t, made())
			x.d.Arm(n)
			if !x.tell(story()) {
				break
			}
			x.d.Start()
			for _, keep := range subsets(chances, x.d.Cached()) {
				y := x.anew(torn(t, x.d, keep))
				if chances.Intn(3) == 0 {
					y.goesOn(chances)
				}
			}
			n++
		}
		if n < 100 {
			t.Errorf("the story has just %d writes", n)
		}
	}
}

// Between two calls, whatever is left.
func TestThePowerGoesBetween(t *testing.T) {
	chances := rand.New(rand.NewSource(2))
	steps := story()
	for n := range steps {
		x := opened(t, old(t, 3))
		x.tell(steps[:n+1])
		for _, keep := range subsets(chances, x.d.Cached()) {
			y := x.anew(torn(t, x.d, keep))
			y.goesOn(chances)
		}
	}
}

// goesOn goes on from what is left: something is put and committed, or the power goes once more within that.
func (x *both) goesOn(r *rand.Rand) {
	x.Helper()
	if r.Intn(2) == 0 {
		x.d.Arm(r.Intn(9))
	}
	for _, p := range x.s.Packs() {
		if r.Intn(3) == 0 {
			x.drops(p)
		}
	}
	k, e := x.puts(3, chance(r, r.Intn(900)))
	if e == api.OK {
		x.commits(k)
	}
	cached := x.d.Cached()
	x.again(chosen(cached, func(int) bool { return r.Intn(2) == 0 })...).all()
}

// All calls by chance, against the words, with stops once and again.
func TestChances(t *testing.T) {
	for seed := range 50 {
		r := rand.New(rand.NewSource(int64(seed)))
		x := opened(t, device(t, r.Intn(3), 2+r.Intn(4)))
		if r.Intn(2) == 0 {
			x = opened(t, old(t, 2+r.Intn(3)))
		}
		for range 150 {
			x = x.step(r)
		}
		x.all()
	}
}

// some answers a key by chance, mostly one that the index has.
func (x *both) some(r *rand.Rand) api.Key {
	l := x.w.row()
	if len(l) == 0 || r.Intn(20) == 0 {
		return keyByWords(1, chance(r, 2))
	}
	return l[r.Intn(len(l))].Key
}

// step does something by chance.
func (x *both) step(r *rand.Rand) *both {
	x.Helper()
	switch r.Intn(16) {
	case 0, 1:
		x.commits(x.some(r))
	case 2, 3:
		x.moves(x.some(r), chosen([]int{-1, 0, 1, 2, 3, 4, 5, 6}, func(int) bool { return r.Intn(5) == 0 })...)
	case 4:
		x.drops(r.Intn(8) - 1)
	case 5:
		x.refers(x.some(r), r.Intn(6)-2)
	case 6:
		x.gets(1+r.Intn(4), x.some(r))
	case 7:
		if r.Intn(3) == 0 {
			x.d.Arm(r.Intn(60))
		}
	case 8:
		if x.w.dead || !x.on() || r.Intn(4) == 0 {
			cached := x.d.Cached()
			return x.again(chosen(cached, func(int) bool { return r.Intn(2) == 0 })...)
		}
	case 9:
		if x.on() && !x.w.dead && r.Intn(3) == 0 {
			return x.anew(x.d)
		}
	default:
		n := r.Intn(longest+1) >> r.Intn(10)
		x.puts(1+r.Intn(4), bytes.Repeat([]byte{byte(r.Intn(8))}, n))
	}
	return x
}

// The rules that hold everywhere.

// What is handed in stays, is kept nowhere, and what stands behind its end is nobody's.
func TestArgumentsStay(t *testing.T) {
	x := fresh(t, 4)
	room := []byte{1, 2, 3, 4, 5, 6}
	k := x.put(1, room[:3])
	if !bytes.Equal(room, []byte{1, 2, 3, 4, 5, 6}) {
		t.Errorf("what was handed in has changed: %v", room)
	}
	clear(room)
	x.all()
	not := []int{2, 1, 7, 8, 9}
	for range 5 {
		if e := x.s.Move(k, not[:2]); e != api.OK || !slices.Equal(not, []int{2, 1, 7, 8, 9}) {
			t.Errorf("Move answers %d, what was handed in is %v", e, not)
		}
	}
	clear(not)
	if b, e := x.s.Get(1, k); e != api.OK || !bytes.Equal(b, []byte{1, 2, 3}) {
		t.Errorf("Get answers %v, %d", b, e)
	}
}

// Answers are the caller's own.
func TestAnswersAreNewMemory(t *testing.T) {
	x := fresh(t, 3)
	k := x.fill(1, 8000)
	x.fill(2, 8000)
	x.fill(3, 8000)
	x.ok(x.commits(k))
	for _, x := range []*both{x, x.again()} {
		l, packs := x.s.Index(), x.s.Packs()
		b, _ := x.s.Get(1, k)
		clear(l)
		_ = append(l[:1], api.Entry{}, api.Entry{})
		clear(packs)
		_ = append(packs[:0], 9, 9, 9)
		clear(b)
		_ = append(b, 1, 2, 3, 4)
		x.is()
		x.all()
		again := x.s.Index()
		x.ok(x.refers(k, 1))
		if again[0].Refs+again[1].Refs+again[2].Refs != 0 {
			t.Errorf("an answer changes: %v", again)
		}
		x.ok(x.commits(k))
	}
	x.again().all()
}

// Stores know nothing of one another.
func TestStoresKnowNothingOfOneAnother(t *testing.T) {
	var wait sync.WaitGroup
	for i := range 8 {
		wait.Go(func() {
			d, _ := disk.New(2+2*sectors, nil)
			s, _ := store.Open(d)
			var root api.Key
			for n := range 100 {
				data := fmt.Appendf(nil, "%d of %d", n, i%2)
				k, e := s.Put(1, data)
				b, f := s.Get(1, k)
				if e != api.OK || f != api.OK || !bytes.Equal(b, data) || len(s.Index()) != n+1 {
					t.Errorf("among other stores: %d, %d, %q, %d entries", e, f, b, len(s.Index()))
				}
				root = k
			}
			if e := s.Commit(root); e != api.OK {
				t.Errorf("among other stores Commit answers %d", e)
			}
		})
	}
	wait.Wait()
	x, y := fresh(t, 2), fresh(t, 2)
	k := x.put(1, []byte("mine"))
	y.notGot(1, k, api.ErrNone)
	x.d.Crash(nil)
	x.notPut(1, nil, api.ErrDead)
	y.put(1, nil)
	y.is()
}

// The same calls on the same bytes answer the same, to the last sector.
func TestTheSameCallsAnswerTheSame(t *testing.T) {
	var images [][]byte
	for range 3 {
		x := opened(t, old(t, 3))
		x.tell(story())
		x.is()
		images = append(images, x.view())
	}
	for _, b := range images {
		if !bytes.Equal(b, images[0]) {
			t.Error("the devices' sectors are not the same")
		}
	}
}
