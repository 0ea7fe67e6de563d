package pack_test

import (
	"bytes"
	"fmt"
	"math"
	"math/rand"
	"slices"
	"sync"
	"testing"

	"palimpsest/api"
	"palimpsest/disk"
	"palimpsest/pack"
)

// both is a device and its packs, and the same by the chapter's words, on a twin of the device.
type both struct {
	*testing.T
	d, twin *disk.Device
}

// on answers a device of an image.
func on(t *testing.T, image []byte, lower int) both {
	t.Helper()
	d, e := disk.Load(image, lower)
	twin, f := disk.Load(image, lower)
	if e != api.OK || f != api.OK {
		t.Fatalf("Load of %d bytes, %d lower answers %d, %d", len(image), lower, e, f)
	}
	return both{t, d, twin}
}

// blank answers a device of n sectors of noughts.
func blank(t *testing.T, n int) both { t.Helper(); return on(t, make([]byte, 256*n), 0) }

// each does the same to both devices.
func (x both) each(do func(d *disk.Device)) { do(x.d); do(x.twin) }

func (x both) write(at int, b []byte) {
	x.Helper()
	x.each(func(d *disk.Device) {
		if e := d.Write(at, b); e != api.OK {
			x.Fatalf("Write to %d answers %d", at, e)
		}
	})
}

func (x both) flush() {
	x.Helper()
	x.each(func(d *disk.Device) {
		if e := d.Flush(); e != api.OK {
			x.Fatalf("Flush answers %d", e)
		}
	})
}

func (x both) arm(n int)         { x.each(func(d *disk.Device) { d.Arm(n) }) }
func (x both) start()            { x.each(func(d *disk.Device) { d.Start() }) }
func (x both) crash(keep ...int) { x.each(func(d *disk.Device) { d.Crash(keep) }) }

// alike holds the devices against one another.
func (x both) alike() {
	x.Helper()
	if !bytes.Equal(x.d.Image(), x.twin.Image()) || !slices.Equal(x.d.Cached(), x.twin.Cached()) || x.d.Writes() != x.twin.Writes() {
		x.Fatalf("the device has another image, or %v in its cache instead of %v, or %d writes instead of %d", x.d.Cached(), x.twin.Cached(), x.d.Writes(), x.twin.Writes())
	}
	for _, at := range x.d.Cached() {
		b, e := x.d.Read(at)
		want, f := x.twin.Read(at)
		if !bytes.Equal(b, want) || e != f {
			x.Fatalf("the cache has of sector %d\n%x instead of\n%x", at, b, want)
		}
	}
}

// pair is a pack, and the same by the chapter's words.
type pair struct {
	both
	p *pack.Pack
	w *words
}

// begins holds what Open or Fresh answered against the words.
func (x both) begins(what string, p *pack.Pack, e api.Errno, w *words, want api.Errno) (pair, api.Errno) {
	x.Helper()
	if e != want || (p == nil) != (w == nil) {
		x.Fatalf("%s answers a pack: %v, %d instead of %d", what, p != nil, e, want)
	}
	x.alike()
	q := pair{x, p, w}
	if w != nil {
		q.is()
	}
	return q, e
}

func (x both) opens(at int) (pair, api.Errno) {
	x.Helper()
	p, e := pack.Open(x.d, at)
	w, f := openByWords(x.twin, at)
	return x.begins(fmt.Sprintf("Open at %d", at), p, e, w, f)
}

func (x both) freshes(at int) (pair, api.Errno) {
	x.Helper()
	p, e := pack.Fresh(x.d, at)
	w, f := freshByWords(x.twin, at)
	return x.begins(fmt.Sprintf("Fresh at %d", at), p, e, w, f)
}

// open answers a pack that may be opened.
func (x both) open(at int) pair {
	x.Helper()
	q, e := x.opens(at)
	if e != api.OK {
		x.Fatalf("Open at %d answers %d", at, e)
	}
	return q
}

// fresh answers a pack that may be begun.
func (x both) fresh(at int) pair {
	x.Helper()
	q, e := x.freshes(at)
	if e != api.OK {
		x.Fatalf("Fresh at %d answers %d", at, e)
	}
	return q
}

// is holds what a pack says of itself against the words.
func (q pair) is() {
	q.Helper()
	l, places := q.p.Records()
	if !slices.EqualFunc(l, q.w.l, same) || !slices.Equal(places, q.w.places) {
		q.Fatalf("Records answers %d at %v instead of %d at %v", len(l), places, len(q.w.l), q.w.places)
	}
	if n := q.p.Room(); n != q.w.room() {
		q.Fatalf("Room answers %d instead of %d", n, q.w.room())
	}
}

// appends holds Append against the words, on the devices too, and answers what it answered.
func (q pair) appends(r api.Record) (int, api.Errno) {
	q.Helper()
	off, e := q.p.Append(r)
	if want, f := q.w.append(r); off != want || e != f {
		q.Fatalf("Append of kind %d, %d bytes answers %d, %d instead of %d, %d", r.Kind, len(r.Data), off, e, want, f)
	}
	q.is()
	q.alike()
	return off, e
}

// put appends a record that may be.
func (q pair) put(r api.Record) int {
	q.Helper()
	off, e := q.appends(r)
	if e != api.OK {
		q.Fatalf("Append of kind %d, %d bytes answers %d", r.Kind, len(r.Data), e)
	}
	return off
}

// refused needs that Append refuses a record with that error.
func (q pair) refused(r api.Record, want api.Errno) {
	q.Helper()
	if off, e := q.appends(r); off != 0 || e != want {
		q.Fatalf("Append of kind %d, %d bytes answers %d, %d instead of %d", r.Kind, len(r.Data), off, e, want)
	}
}

// reads holds Read against the words, and answers what it answered.
func (q pair) reads(off int) (api.Record, api.Errno) {
	q.Helper()
	r, e := q.p.Read(off)
	if want, f := q.w.read(off); !same(r, want) || e != f {
		q.Fatalf("Read at %d answers kind %d, %s, %d bytes, %d instead of kind %d, %s, %d bytes, %d", off, r.Kind, r.Key, len(r.Data), e, want.Kind, want.Key, len(want.Data), f)
	}
	return r, e
}

// unread needs that Read refuses a place with that error.
func (q pair) unread(off int, want api.Errno) {
	q.Helper()
	if r, e := q.reads(off); !same(r, api.Record{}) || e != want {
		q.Fatalf("Read at %d answers %v, %d instead of %d", off, r, e, want)
	}
}

// all reads each record.
func (q pair) all() {
	q.Helper()
	for _, off := range q.w.places {
		q.reads(off)
	}
}

// record answers the record of a kind with those Data.
func record(kind int, data []byte) api.Record {
	return api.Record{Kind: kind, Key: keyByWords(byte(kind), data), Data: data}
}

// bytesOf answers the bytes of records, one behind the other.
func bytesOf(l ...api.Record) []byte {
	var b []byte
	for _, r := range l {
		b = append(b, framed(byte(r.Kind), r.Data)...)
	}
	return b
}

// noRecord is a number of bytes, above 6, that no record has: the length of more Data has one byte more.
const noRecord = 135

// filling answers a record that has n bytes in a pack: its Data are all c.
func filling(c byte, n int) api.Record {
	data := n - 7
	if n > noRecord {
		data = n - 8
	}
	return record(api.KindChunk, bytes.Repeat([]byte{c}, data))
}

// chance answers n bytes by chance.
func chance(r *rand.Rand, n int) []byte {
	b := make([]byte, n)
	r.Read(b)
	return b
}

// some answers a record by chance, mostly a small one.
func some(r *rand.Rand) api.Record {
	return record(1+r.Intn(4), chance(r, r.Intn(longest+1)>>r.Intn(14)))
}

// noise answers n sectors without order, the same ones each time.
func noise(n int) []byte { return chance(rand.New(rand.NewSource(int64(n))), 256*n) }

// P13.1: Open

func TestExample(t *testing.T) {
	x := blank(t, 64)
	q := x.fresh(0)
	one, other := record(1, []byte{5}), record(2, []byte("another one"))
	first, second := q.put(one), q.put(other)
	x.flush()
	q = x.open(0)
	l, places := q.p.Records()
	if len(l) != 2 || !same(l[0], one) || !same(l[1], other) || first != 0 || second != 8 || !slices.Equal(places, []int{0, 8}) || q.p.Room() != 16384-8-18 {
		t.Errorf("opened anew: %v at %v, room for %d", l, places, q.p.Room())
	}
}

func TestOpenOfNoughts(t *testing.T) {
	for _, n := range []int{64, 65, 128, 4096} {
		x := blank(t, n)
		for _, at := range []int{0, 1, n - 65, n - 64} {
			if at < 0 {
				continue
			}
			q := x.open(min(at, n-64))
			if l, places := q.p.Records(); len(l) != 0 || len(places) != 0 || q.p.Room() != 16384 {
				t.Errorf("a pack of noughts at %d of %d: %d records at %v, room for %d", at, n, len(l), places, q.p.Room())
			}
		}
	}
}

// Just the bytes of the pack's own sectors are read, from the first on.
func TestOpenReadsItsSectors(t *testing.T) {
	l := []api.Record{record(1, []byte("first")), record(4, nil), filling(7, 300), record(3, []byte("last"))}
	b := bytesOf(l...)
	for _, at := range []int{0, 1, 2, 63, 64, 65, 100} {
		image := noise(164)
		copy(image[256*at:], b)
		q := on(t, image, 0).open(at)
		if got, places := q.p.Records(); !slices.EqualFunc(got, l, same) || !slices.Equal(places, []int{0, 12, 19, 319}) || q.p.Room() != 16384-330 {
			t.Errorf("at %d: %d records at %v, room for %d", at, len(got), places, q.p.Room())
		}
		q.all()
	}
}

// A record that does not end within the pack is none, whatever stands behind it.
func TestOpenEndsWithThePack(t *testing.T) {
	for over := range 20 {
		image := noise(200)
		full := []api.Record{filling(1, 8000), filling(2, 8000), filling(3, 384-10+over)}
		copy(image[256*50:], bytesOf(full...))
		copy(image[256*50+16374+over:], bytesOf(record(1, []byte{1, 2, 3})))
		q := on(t, image, 0).open(50)
		want := 3
		if over == 0 {
			want = 4
		}
		if over > 10 {
			want = 2
		}
		if l, _ := q.p.Records(); len(l) != want {
			t.Errorf("of 16384 bytes and %d: %d records instead of %d", over-10, len(l), want)
		}
	}
}

// Records are read up to the first that cannot be.
func TestOpenOfTornRecords(t *testing.T) {
	l := []api.Record{record(1, []byte("first")), filling(2, 600), record(3, []byte("third")), filling(4, 500)}
	b := bytesOf(l...)
	ends := []int{12, 612, 624, 1124}
	for at := range b {
		image := make([]byte, whole)
		copy(image, b)
		image[at] ^= 1 << (at % 8)
		q := on(t, image, 0).open(0)
		want := slices.IndexFunc(ends, func(end int) bool { return at < end })
		if got, _ := q.p.Records(); !slices.EqualFunc(got, l[:want], same) {
			t.Errorf("with byte %d turned: %d records instead of %d", at, len(got), want)
		}
	}
}

func TestOpenReadsWhatTheCacheHas(t *testing.T) {
	x := blank(t, 70)
	b := bytesOf(record(1, []byte("not flushed")), filling(1, 238))
	x.write(3, b)
	if l, _ := x.open(3).p.Records(); len(l) != 2 {
		t.Errorf("%d records are in the cache", len(l))
	}
	x.crash()
	x.start()
	if l, _ := x.open(3).p.Records(); len(l) != 0 {
		t.Errorf("%d records are left of nothing", len(l))
	}
}

// A pack that has no byte left has no room.
func TestOpenOfAFullPack(t *testing.T) {
	image := slices.Concat(bytesOf(filling(1, 8192), filling(2, 8000), filling(3, 192)), noise(1))
	x := on(t, image, 0)
	q := x.open(0)
	if l, places := q.p.Records(); len(l) != 3 || !slices.Equal(places, []int{0, 8192, 16192}) || q.p.Room() != 0 {
		t.Errorf("a full pack: %d records at %v, room for %d", len(l), places, q.p.Room())
	}
	q.all()
	q.refused(record(1, nil), api.ErrFull)
}

// As many records as there may be.
func TestOpenOfTheShortest(t *testing.T) {
	l := slices.Repeat([]api.Record{record(2, nil)}, whole/7)
	x := on(t, slices.Concat(bytesOf(l...), make([]byte, whole%7)), 0)
	q := x.open(0)
	if got, places := q.p.Records(); len(got) != 2340 || places[2339] != 16373 || q.p.Room() != 4 {
		t.Errorf("%d records, room for %d", len(got), q.p.Room())
	}
	q.refused(record(2, nil), api.ErrFull)
	q.unread(16380, api.ErrPack)
}

// outside are places at which no pack's sectors are those of a device of n sectors.
func outside(n int) []int {
	return []int{-1, -2, -63, -64, -65, -n, n - 63, n - 62, n - 1, n, n + 1, 256 * n, api.MaxDisk, math.MaxInt, math.MaxInt - 62, math.MaxInt - 63, math.MaxInt - 64, math.MinInt, math.MinInt + 63, math.MinInt + 64}
}

func TestNoSectors(t *testing.T) {
	for _, n := range []int{64, 65, 128, 200, 4096} {
		for _, lower := range []int{0, 1, 64, n} {
			x := on(t, make([]byte, 256*n), lower)
			for _, at := range outside(n) {
				if _, e := x.opens(at); e != api.ErrSector {
					t.Errorf("Open at %d of %d sectors answers %d", at, n, e)
				}
				if _, e := x.freshes(at); e != api.ErrSector {
					t.Errorf("Fresh at %d of %d sectors, %d lower, answers %d", at, n, lower, e)
				}
			}
		}
	}
}

func TestDevicesThatAreTooShort(t *testing.T) {
	for _, n := range []int{1, 2, 32, 62, 63} {
		x := blank(t, n)
		for _, at := range []int{0, 1, n - 1, n, n - 64, -1} {
			if _, e := x.opens(at); e != api.ErrSector {
				t.Errorf("Open at %d of %d sectors answers %d", at, n, e)
			}
			if _, e := x.freshes(at); e != api.ErrSector {
				t.Errorf("Fresh at %d of %d sectors answers %d", at, n, e)
			}
		}
	}
}

// A device that is none has no sectors.
func TestNoDevice(t *testing.T) {
	for _, d := range []*disk.Device{nil, {}} {
		for _, at := range []int{0, 1, -1, -64, math.MinInt, math.MaxInt} {
			if p, e := pack.Open(d, at); p != nil || e != api.ErrSector {
				t.Errorf("Open at %d of no device answers %v, %d", at, p, e)
			}
			if p, e := pack.Fresh(d, at); p != nil || e != api.ErrSector {
				t.Errorf("Fresh at %d of no device answers %v, %d", at, p, e)
			}
		}
	}
}

func TestOpenWithoutPower(t *testing.T) {
	x := on(t, noise(100), 10)
	x.crash()
	for _, at := range []int{0, 9, 10, 36} {
		if _, e := x.opens(at); e != api.ErrDead {
			t.Errorf("Open at %d without power answers %d", at, e)
		}
	}
	for _, at := range []int{-1, 37} {
		if _, e := x.opens(at); e != api.ErrSector {
			t.Errorf("Open at %d without power answers %d", at, e)
		}
	}
	x.start()
	x.open(0)
	x.open(36)
}

// Lower sectors are read too.
func TestOpenOfLowerSectors(t *testing.T) {
	l := []api.Record{filling(1, 5000), filling(2, 5000)}
	image := slices.Concat(bytesOf(l...), make([]byte, 64*256-10000))
	for _, lower := range []int{0, 1, 39, 40, 63, 64} {
		q := on(t, image, lower).open(0)
		if got, _ := q.p.Records(); !slices.EqualFunc(got, l, same) || q.p.Room() != 6384 {
			t.Errorf("of %d lower sectors: %d records, room for %d", lower, len(got), q.p.Room())
		}
		q.all()
	}
}

// P13.1: Fresh

// Nothing is read, whatever stands there, and nothing written.
func TestFresh(t *testing.T) {
	image := slices.Concat(noise(3), bytesOf(filling(1, 8192), filling(2, 8192)), noise(2))
	x := on(t, image, 3)
	for _, at := range []int{3, 4, 5} {
		q := x.fresh(at)
		if l, places := q.p.Records(); len(l) != 0 || len(places) != 0 || q.p.Room() != 16384 {
			t.Errorf("fresh at %d: %d records at %v, room for %d", at, len(l), places, q.p.Room())
		}
		q.unread(0, api.ErrPack)
	}
	if !bytes.Equal(x.d.Image(), image) || x.d.Writes() != 0 || len(x.d.Cached()) != 0 {
		t.Errorf("Fresh has written: %d, %v", x.d.Writes(), x.d.Cached())
	}
	if l, _ := x.open(3).p.Records(); len(l) != 2 {
		t.Errorf("behind Fresh %d records are left", len(l))
	}
}

func TestFreshOfLowerSectors(t *testing.T) {
	for _, lower := range []int{0, 1, 2, 63, 64, 65, 135, 136, 137, 200} {
		x := on(t, noise(200), lower)
		for at := range 137 {
			want := api.OK
			if at < lower {
				want = api.ErrLower
			}
			if _, e := x.freshes(at); e != want {
				t.Errorf("Fresh at %d, %d lower, answers %d", at, lower, e)
			}
		}
	}
}

func TestFreshWithoutPower(t *testing.T) {
	x := on(t, noise(100), 10)
	x.crash()
	for at, want := range map[int]api.Errno{-1: api.ErrSector, 0: api.ErrLower, 9: api.ErrLower, 10: api.ErrDead, 11: api.ErrDead, 36: api.ErrDead, 37: api.ErrSector} {
		if _, e := x.freshes(at); e != want {
			t.Errorf("Fresh at %d without power answers %d instead of %d", at, e, want)
		}
	}
	x.start()
	x.fresh(10)
}

// Neither takes the power that is armed to go, since neither writes.
func TestNeitherWrites(t *testing.T) {
	x := on(t, noise(64), 0)
	x.arm(0)
	x.open(0)
	x.fresh(0)
	if e := x.d.Flush(); e != api.ErrDead {
		t.Errorf("the armed flush answers %d", e)
	}
}

// P13.1: what neither gave

func TestWhatNeitherGave(t *testing.T) {
	for _, p := range []*pack.Pack{nil, {}, new(pack.Pack)} {
		for range 2 {
			for _, r := range []api.Record{{}, record(1, nil), record(2, []byte("that may be")), {Kind: 9}, record(1, make([]byte, 8193))} {
				if off, e := p.Append(r); off != 0 || e != api.ErrNil {
					t.Errorf("Append answers %d, %d", off, e)
				}
			}
			for _, off := range []int{0, 1, -1, 16384, math.MaxInt, math.MinInt} {
				if r, e := p.Read(off); !same(r, api.Record{}) || e != api.ErrNil {
					t.Errorf("Read at %d answers %v, %d", off, r, e)
				}
			}
			if l, places := p.Records(); len(l) != 0 || len(places) != 0 {
				t.Errorf("Records answers %v, %v", l, places)
			}
			if n := p.Room(); n != 0 {
				t.Errorf("Room answers %d", n)
			}
		}
	}
}

// P13.2: Append

// What stands on the device, byte for byte.
func TestAppendOfKnownBytes(t *testing.T) {
	x := on(t, bytes.Repeat([]byte{0xee}, 256*66), 1)
	q := x.fresh(2)
	if off, e := q.p.Append(record(1, []byte{5})); off != 0 || e != api.OK {
		t.Fatalf("the first one: %d, %d", off, e)
	}
	if off, e := q.p.Append(record(2, nil)); off != 8 || e != api.OK {
		t.Fatalf("the second one: %d, %d", off, e)
	}
	b, _ := x.d.Read(2)
	want := append([]byte{0xa5, 1, 1, 5, 0xd2, 0x99, 0x42, 0x33, 0xa5, 2, 0, 0x1b, 0x24, 0xc4, 0x12}, make([]byte, 241)...)
	if !bytes.Equal(b, want) || !slices.Equal(x.d.Cached(), []int{2}) || x.d.Writes() != 2 || q.p.Room() != 16369 {
		t.Errorf("the sector is\n%x, written are %v in %d writes, room for %d", b, x.d.Cached(), x.d.Writes(), q.p.Room())
	}
}

// All sectors that a record touches are written, once each, and what is left of the last one is noughts; where nothing is left of it, the next one.
func TestAppendOfEachSize(t *testing.T) {
	for _, ahead := range []int{0, 7, 100, 249, 250, 255, 256, 257, 511, 512, 513, 15872, 16000} {
		for _, n := range []int{7, 8, 9, 100, 249, 254, 255, 256, 257, 258, 384, 412, 505, 511, 512, 513, 1000, 8000, 8199} {
			x := on(t, bytes.Repeat([]byte{0xee}, 256*70), 0)
			q := x.fresh(2)
			if ahead > 8192 {
				q.put(filling(1, 8000))
				q.put(filling(1, ahead-8000))
			} else if ahead > 0 {
				q.put(filling(1, ahead))
			}
			x.flush()
			if ahead+n > whole {
				q.refused(filling(2, n), api.ErrFull)
				continue
			}
			was := x.d.Writes()
			off := q.put(filling(2, n))
			first, last := 2+ahead/256, min(2+(ahead+n)/256, 65)
			var written []int
			for at := first; at <= last; at++ {
				written = append(written, at)
			}
			if off != ahead || !slices.Equal(x.d.Cached(), written) || x.d.Writes()-was != len(written) {
				t.Errorf("Append of %d bytes behind %d answers %d, and writes %v in %d writes instead of %v", n, ahead, off, x.d.Cached(), x.d.Writes()-was, written)
			}
			b, _ := all(x.d, 2)
			behind := min((ahead+n)/256*256+256, whole)
			if !bytes.Equal(b[ahead:][:n], bytesOf(filling(2, n))) || !bytes.Equal(b[ahead+n:behind], make([]byte, behind-ahead-n)) || !bytes.Equal(b[behind:], bytes.Repeat([]byte{0xee}, whole-behind)) {
				t.Errorf("Append of %d bytes behind %d has other bytes", n, ahead)
			}
			q.all()
		}
	}
}

// What stands ahead of the record in its first sector stays, and so do all other sectors.
func TestAppendBehindWhatIsThere(t *testing.T) {
	row := []api.Record{filling(1, 300), filling(2, 100)}
	image := slices.Concat(noise(5), bytesOf(row...), noise(70))
	image = image[:75*256]
	x := on(t, image, 2)
	q := x.open(5)
	off := q.put(record(3, []byte("behind")))
	if off != 400 || !slices.Equal(x.d.Cached(), []int{6}) {
		t.Errorf("it begins at %d, written are %v", off, x.d.Cached())
	}
	x.flush()
	want := slices.Clone(image)
	copy(want[5*256+400:], bytesOf(record(3, []byte("behind"))))
	clear(want[5*256+413 : 7*256])
	if !bytes.Equal(x.d.Image(), want) {
		t.Error("the device has other bytes")
	}
	q = x.open(5)
	if l, places := q.p.Records(); len(l) != 3 || !slices.Equal(places, []int{0, 300, 400}) {
		t.Errorf("%d records at %v", len(l), places)
	}
}

// It is written, not flushed.
func TestAppendDoesNotFlush(t *testing.T) {
	x := blank(t, 64)
	q := x.fresh(0)
	q.put(filling(1, 1000))
	if !bytes.Equal(x.d.Image(), make([]byte, whole)) || !slices.Equal(x.d.Cached(), []int{0, 1, 2, 3}) || x.d.Writes() != 4 {
		t.Errorf("behind Append: %v in %d writes", x.d.Cached(), x.d.Writes())
	}
}

// The same record may be appended again and again.
func TestAppendOfTheSame(t *testing.T) {
	q := blank(t, 64).fresh(0)
	for i := range 50 {
		if off := q.put(record(1, []byte("same"))); off != 11*i {
			t.Errorf("the %d-th one begins at %d", i, off)
		}
	}
	q.all()
}

// Where the one that is appended ends with the pack, the sector behind it is another one's.
func TestAppendUpToTheEnd(t *testing.T) {
	for _, last := range []int{7, 100, 128, 256, 300, 512, 1024} {
		x := on(t, noise(130), 0)
		q := x.fresh(1)
		for q.p.Room() > 8000+last {
			q.put(filling(1, 8000))
		}
		q.put(filling(2, q.p.Room()-last))
		x.flush()
		q.refused(filling(3, last+1), api.ErrFull)
		q.put(filling(3, last))
		if cached := x.d.Cached(); q.p.Room() != 0 || slices.Max(cached) != 64 {
			t.Errorf("of the last %d bytes %v are written, room for %d", last, cached, q.p.Room())
		}
		q.refused(record(1, nil), api.ErrFull)
		x.flush()
		if b := x.d.Image(); !bytes.Equal(b[65*256:], noise(130)[65*256:]) || !bytes.Equal(b[:256], noise(130)[:256]) {
			t.Error("sectors that are none of the pack's have changed")
		}
		x.open(1).all()
	}
}

// P13.2: what Append refuses

func TestAppendOfNoRecord(t *testing.T) {
	x := blank(t, 64)
	q := x.fresh(0)
	q.put(record(1, []byte("first")))
	x.flush()
	good := record(1, []byte("another"))
	for _, r := range []api.Record{
		{}, {Kind: 1}, {Key: good.Key}, {Kind: 0, Key: good.Key, Data: good.Data}, {Kind: 2, Key: good.Key, Data: good.Data}, {Kind: 1, Data: good.Data},
		{Kind: 1, Key: good.Key, Data: []byte("anothe")}, {Kind: 1, Key: good.Key + "0", Data: good.Data},
		record(0, nil), record(5, nil), record(-1, nil), record(257, nil), record(math.MinInt, nil), record(1, make([]byte, 8193)), record(1, make([]byte, 20000)),
	} {
		q.refused(r, api.ErrFrame)
		if len(x.d.Cached()) != 0 {
			t.Errorf("what is refused is written: %v", x.d.Cached())
		}
	}
	q.put(good)
}

// That it is no record is told ahead of all else, then that there is no room, then what the device says.
func TestWhyAnAppendIsRefused(t *testing.T) {
	x := blank(t, 64)
	q := x.fresh(0)
	q.put(filling(1, 8192))
	q.put(filling(1, 8000))
	x.flush()
	q.refused(filling(1, 193), api.ErrFull)
	q.refused(record(1, make([]byte, 8192)), api.ErrFull)
	q.refused(record(1, make([]byte, 8193)), api.ErrFrame)
	x.crash()
	q.refused(filling(1, 193), api.ErrFull)
	q.refused(record(9, make([]byte, 193)), api.ErrFrame)
	x.start()
	q.put(filling(1, 192))
	q.refused(record(9, nil), api.ErrFrame)
	q.refused(record(1, nil), api.ErrFull)
}

// What was refused for want of room leaves room for a smaller one.
func TestRoomIsLeft(t *testing.T) {
	x := blank(t, 64)
	q := x.fresh(0)
	q.put(filling(1, 8192))
	q.put(filling(1, 8100))
	for n := 200; n > 92; n-- {
		if n != noRecord {
			q.refused(filling(2, n), api.ErrFull)
		}
	}
	q.put(filling(2, 46))
	q.refused(filling(2, 47), api.ErrFull)
	q.put(filling(2, 39))
	q.refused(filling(2, 8), api.ErrFull)
	q.put(filling(2, 7))
	q.all()
}

// Behind a write that goes wrong there is no room, and all else is as it was: so at each of the writes.
func TestAppendWithoutPower(t *testing.T) {
	for _, ahead := range []int{7, 200, 256, 300, 512} {
		for _, n := range []int{7, 56, 256, 300, 512, 700} {
			for armed := range 5 {
				x := on(t, noise(64), 0)
				q := x.fresh(0)
				q.put(filling(1, ahead))
				x.flush()
				room := q.p.Room()
				x.arm(armed)
				off, e := q.appends(filling(2, n))
				if e == api.OK {
					if armed < (ahead+n)/256-ahead/256+1 || off != ahead || q.p.Room() != room-n {
						t.Errorf("%d bytes behind %d, armed %d: %d, room for %d", n, ahead, armed, off, q.p.Room())
					}
					continue
				}
				if l, places := q.p.Records(); e != api.ErrDead || off != 0 || q.p.Room() != 0 || len(l) != 1 || !slices.Equal(places, []int{0}) || len(x.d.Cached()) != armed {
					t.Errorf("%d bytes behind %d, armed %d: %d, %d, room for %d, %v are written", n, ahead, armed, off, e, q.p.Room(), x.d.Cached())
				}
				shut(q, ahead)
			}
		}
	}
}

// shut holds a pack, a write of which went wrong, to be as it was, but that it has no room any more.
func shut(q pair, ahead int) {
	q.Helper()
	q.unread(0, api.ErrDead)
	q.unread(ahead, api.ErrPack)
	q.refused(filling(3, 7), api.ErrFull)
	q.crash(q.d.Cached()...)
	q.start()
	q.refused(filling(3, 7), api.ErrFull)
	q.refused(record(0, nil), api.ErrFrame)
	if r, e := q.reads(0); e != api.OK || !same(r, filling(1, ahead)) {
		q.Errorf("what was flushed is read as %v, %d", r, e)
	}
	q.unread(ahead, api.ErrPack)
	q.open(0).put(filling(3, 7))
}

func TestAppendToADeadDevice(t *testing.T) {
	x := on(t, noise(64), 0)
	q, other := x.fresh(0), x.fresh(0)
	x.crash()
	q.refused(record(1, nil), api.ErrDead)
	q.refused(record(1, nil), api.ErrFull)
	x.start()
	q.refused(record(1, nil), api.ErrFull)
	if q.p.Room() != 0 || other.p.Room() != 16384 {
		t.Errorf("room for %d, and in another pack for %d", q.p.Room(), other.p.Room())
	}
	other.put(record(1, nil))
}

// A pack whose last record ends in a lower sector may be opened, but nothing can be appended to it.
func TestAppendToLowerSectors(t *testing.T) {
	image := slices.Concat(bytesOf(filling(1, 700)), make([]byte, whole))[:whole]
	for _, lower := range []int{0, 1, 2, 3, 4, 64} {
		x := on(t, image, lower)
		q := x.open(0)
		want := api.OK
		if lower > 2 {
			want = api.ErrLower
		}
		if _, e := q.appends(filling(2, 100)); e != want || (q.p.Room() == 0) != (e != api.OK) {
			t.Errorf("with %d lower sectors: %d, room for %d", lower, e, q.p.Room())
		}
		if !bytes.Equal(x.d.Image(), image) || (lower > 2) != (len(x.d.Cached()) == 0) {
			t.Errorf("with %d lower sectors %v are written", lower, x.d.Cached())
		}
		q.all()
	}
	x := on(t, make([]byte, 2*whole), 128)
	q := x.open(32)
	x.crash()
	q.refused(record(1, nil), api.ErrDead)
	x.start()
	q = x.open(32)
	q.refused(record(1, nil), api.ErrLower)
	q.refused(record(1, nil), api.ErrFull)
}

// P13.2: Records, Room

func TestRecordsAndRoom(t *testing.T) {
	chances := rand.New(rand.NewSource(1))
	x := blank(t, 200)
	q := x.fresh(100)
	var row []api.Record
	var ends []int
	end := 0
	for range 3000 {
		r := some(chances)
		if _, e := q.appends(r); e == api.ErrFull {
			continue
		}
		ends, row = append(ends, end), append(row, r)
		end += len(bytesOf(r))
		if l, places := q.p.Records(); !slices.EqualFunc(l, row, same) || !slices.Equal(places, ends) || q.p.Room() != 16384-end {
			t.Fatalf("%d records at %v, room for %d", len(l), places, q.p.Room())
		}
		if q.p.Room() < 7 {
			break
		}
	}
	if q.p.Room() > 100 {
		t.Errorf("room for %d is left", q.p.Room())
	}
	q.all()
	x.flush()
	if l, places := x.open(100).p.Records(); !slices.EqualFunc(l, row, same) || !slices.Equal(places, ends) {
		t.Errorf("opened anew: %d records at %v", len(l), places)
	}
}

// Records are those that were read or appended, whatever the device has by now, with power or without.
func TestRecordsStay(t *testing.T) {
	x := blank(t, 64)
	x.fresh(0).put(filling(1, 300))
	q := x.open(0)
	q.put(filling(2, 500))
	for i := range 64 {
		x.write(i, make([]byte, 256))
	}
	q.is()
	x.crash()
	q.is()
	if l, places := q.p.Records(); len(l) != 2 || !slices.Equal(places, []int{0, 300}) || q.p.Room() != 16384-800 {
		t.Errorf("%d records at %v, room for %d", len(l), places, q.p.Room())
	}
}

// P13.2: Read

func TestReadOfEachPlace(t *testing.T) {
	x := blank(t, 100)
	q := x.fresh(30)
	row := map[int]api.Record{}
	for i, n := range []int{7, 8, 100, 134, 7, 256, 300, 8000, 249, 263, 1000} {
		r := filling(byte(i), n)
		row[q.put(r)] = r
	}
	for off := -300; off < 17000; off++ {
		r, e := q.p.Read(off)
		want, begins := row[off]
		if begins && (e != api.OK || !same(r, want)) || !begins && (e != api.ErrPack || !same(r, api.Record{})) {
			t.Errorf("Read at %d answers kind %d, %d bytes, %d", off, r.Kind, len(r.Data), e)
		}
	}
	for _, off := range []int{math.MinInt, math.MaxInt, math.MinInt + 7, -1 << 32, 1 << 32, 1<<32 + 7, 30 * 256} {
		q.unread(off, api.ErrPack)
	}
	q.all()
}

// A record that stands within another one's Data is none of Records, though its bytes are there.
func TestReadWithinARecord(t *testing.T) {
	within := bytesOf(record(1, []byte("within")))
	x := blank(t, 64)
	q := x.fresh(0)
	q.put(record(2, within))
	q.unread(3, api.ErrPack)
	x.flush()
	q = x.open(0)
	q.unread(3, api.ErrPack)
	q.all()
}

// A record that was written there by others is none of Records.
func TestReadOfWhatOthersWrote(t *testing.T) {
	x := blank(t, 64)
	q, other := x.fresh(0), x.fresh(0)
	q.put(filling(1, 20))
	other.put(filling(1, 20))
	off := other.put(filling(2, 20))
	q.unread(off, api.ErrPack)
	if r, e := other.reads(off); e != api.OK || !same(r, filling(2, 20)) {
		t.Errorf("the other pack reads %v, %d", r, e)
	}
}

// What is read are the device's bytes: each that is another one is found, and found no more when it is the old one again.
func TestReadOfOtherBytes(t *testing.T) {
	x := blank(t, 64)
	q := x.fresh(0)
	q.put(filling(1, 250))
	off := q.put(record(2, []byte("twelve bytes")))
	behind := q.put(filling(3, 250))
	x.flush()
	b := x.d.Image()
	for at := range b[:1024] {
		turned := slices.Clone(b[at/256*256:][:256])
		turned[at%256] ^= 1 << (at % 8)
		x.write(at/256, turned)
		want := api.OK
		if at >= off && at < behind {
			want = api.ErrHash
		}
		if r, e := q.reads(off); e != want || e != api.OK && !same(r, api.Record{}) {
			t.Errorf("Read with byte %d turned answers %v, %d", at, r, e)
		}
		q.all()
		x.write(at/256, b[at/256*256:][:256])
		q.all()
	}
}

// A whole record is refused where its key is another one, shorter, as long, or longer.
func TestReadOfAnotherRecord(t *testing.T) {
	for _, other := range []api.Record{record(1, []byte("fourth")), record(2, []byte("thirds")), record(2, nil), record(2, []byte("third")), record(4, bytes.Repeat([]byte("long"), 1000)), record(2, make([]byte, 8192))} {
		x := blank(t, 64)
		q := x.fresh(0)
		off := q.put(record(2, []byte("fourth")))
		x.flush()
		b := slices.Concat(bytesOf(other), make([]byte, whole))
		for i := range 64 {
			x.write(i, b[256*i:][:256])
		}
		q.unread(off, api.ErrHash)
		if l, _ := x.open(0).p.Records(); len(l) != 1 || !same(l[0], other) {
			t.Errorf("opened anew: %v", l)
		}
		q.is()
	}
}

// Bytes that end within the pack are refused likewise.
func TestReadOfARecordThatDoesNotEnd(t *testing.T) {
	x := blank(t, 65)
	q := x.fresh(0)
	q.put(filling(1, 8192))
	q.put(filling(1, 8182))
	off := q.put(record(1, []byte{1, 2, 3}))
	if off != 16374 || q.p.Room() != 0 {
		t.Fatalf("it begins at %d, room for %d", off, q.p.Room())
	}
	x.flush()
	last, _ := x.d.Read(63)
	last[off%256+2] = 4
	x.write(63, last)
	q.unread(off, api.ErrHash)
	last[off%256+2] = 0x83
	x.write(63, last)
	q.unread(off, api.ErrHash)
	last[off%256+2] = 3
	x.write(63, last)
	q.reads(off)
}

func TestReadWithoutPower(t *testing.T) {
	x := blank(t, 64)
	q := x.fresh(0)
	q.put(filling(1, 300))
	off := q.put(filling(2, 300))
	x.flush()
	x.crash()
	q.unread(0, api.ErrDead)
	q.unread(off, api.ErrDead)
	q.unread(1, api.ErrPack)
	q.unread(-1, api.ErrPack)
	q.unread(600, api.ErrPack)
	x.start()
	if r, e := q.reads(off); e != api.OK || !same(r, filling(2, 300)) {
		t.Errorf("with power again: %v, %d", r, e)
	}
}

// What was not flushed, and is not left, is not read.
func TestReadOfWhatIsNotLeft(t *testing.T) {
	x := on(t, noise(64), 0)
	q := x.fresh(0)
	q.put(filling(1, 300))
	x.flush()
	off := q.put(filling(2, 600))
	x.crash(1, 3)
	x.start()
	if r, e := q.reads(0); e != api.OK || !same(r, filling(1, 300)) {
		t.Errorf("what was flushed is read as %v, %d", r, e)
	}
	q.unread(off, api.ErrHash)
	q.is()
}

// Read writes nothing, and takes no power.
func TestReadWritesNothing(t *testing.T) {
	x := blank(t, 64)
	q := x.fresh(0)
	off := q.put(filling(1, 3000))
	x.arm(0)
	was := x.d.Writes()
	for range 5 {
		q.reads(off)
		q.is()
	}
	x.alike()
	if x.d.Writes() != was {
		t.Errorf("Read has written %d times", x.d.Writes()-was)
	}
}

// P13.3

// subsets answers all choices among places.
func subsets(places []int) [][]int {
	all := [][]int{nil}
	for _, at := range places {
		for _, l := range all {
			all = append(all, append(slices.Clone(l), at))
		}
	}
	return all
}

// torn is a pack to which records were appended behind others that were flushed.
type torn struct {
	x     both
	image []byte // behind the flush
	was   []api.Record
	row   []api.Record
}

// tear answers a pack of an image, to which records of so many bytes were appended, and flushed, and others since.
func tear(t *testing.T, image []byte, flushed, since []int) torn {
	t.Helper()
	x := on(t, image, 0)
	q := x.fresh(0)
	for i, n := range flushed {
		q.put(filling(byte(i), n))
	}
	x.flush()
	was, _ := q.p.Records()
	for i, n := range since {
		q.put(filling(byte(100+i), n))
	}
	row, _ := q.p.Records()
	return torn{x, x.d.Image(), was, row}
}

// left answers the records of the pack, if of what was appended since just those sectors are left.
func (c torn) left(keep []int) []api.Record {
	x := on(c.x.T, c.image, 0)
	for _, at := range keep {
		b, _ := c.x.d.Read(at)
		x.write(at, b)
	}
	l, _ := x.open(0).p.Records()
	return l
}

// tears are numbers of bytes of records, those that end with a sector among them.
func tears() ([][]int, [][]int) {
	return [][]int{{7}, {249}, {256}, {250, 6 + 256}, {300}, {505}, {512}, {100, 156, 256}},
		[][]int{{7}, {249}, {6 + 250}, {300, 300}, {1000}, {1024}, {7, 7, 498}, {256, 256, 256}, {100, 900, 20}}
}

// Whatever is left: what was flushed is there, in order, and behind it the first ones of what was appended since.
func TestWhateverIsLeft(t *testing.T) {
	flushed, since := tears()
	for _, before := range flushed {
		for _, behind := range since {
			c := tear(t, noise(64), before, behind)
			cached := c.x.d.Cached()
			for _, keep := range subsets(cached) {
				l := c.left(keep)
				if len(l) < len(c.was) || len(l) > len(c.row) || !slices.EqualFunc(l, c.row[:len(l)], same) || len(keep) == len(cached) && len(l) != len(c.row) {
					t.Fatalf("%v flushed, %v since, %v left: %d records", before, behind, keep, len(l))
				}
			}
		}
	}
}

// So it is where records of an older pack stand behind; where the sector of noughts behind a record is not left, those are read on, and none of them is wrong.
func TestWhateverIsLeftOverAnOlderPack(t *testing.T) {
	flushed, since := tears()
	old := filling(99, 256)
	for _, before := range flushed {
		for _, behind := range since {
			c := tear(t, bytesOf(slices.Repeat([]api.Record{old}, 64)...), before, behind)
			cached := c.x.d.Cached()
			for _, keep := range subsets(cached) {
				l := c.left(keep)
				n := 0
				for n < min(len(l), len(c.row)) && same(l[n], c.row[n]) {
					n++
				}
				strange := slices.ContainsFunc(l[n:], func(r api.Record) bool {
					return !same(r, old) && !slices.ContainsFunc(c.row, func(s api.Record) bool { return same(r, s) })
				})
				if n < len(c.was) || strange || len(keep) == len(cached) && len(l) != len(c.row) {
					t.Fatalf("%v flushed, %v since, %v left: %d records, %d of them those that were appended", before, behind, keep, len(l), n)
				}
			}
		}
	}
}

// The power goes at each write, whatever is left of those ahead of it; all goes on from there.
func TestWheneverThePowerGoes(t *testing.T) {
	chances := rand.New(rand.NewSource(2))
	for armed := range 60 {
		x := on(t, noise(80), 8)
		q := x.fresh(16)
		q.put(filling(1, 7))
		x.flush()
		x.arm(armed)
		flushed, row := 1, []api.Record{filling(1, 7)}
		for {
			r := some(chances)
			r = record(r.Kind, r.Data[:min(len(r.Data), 700)])
			if _, e := q.appends(r); e != api.OK {
				break
			}
			row = append(row, r)
			if chances.Intn(3) == 0 {
				e := x.d.Flush()
				if f := x.twin.Flush(); e != f {
					t.Fatalf("Flush answers %d, %d", e, f)
				}
				if e != api.OK {
					break
				}
				flushed = len(row)
			}
		}
		cached := x.d.Cached()
		x.crash(cached[:chances.Intn(len(cached)+1)]...)
		x.start()
		q = x.open(16)
		l, _ := q.p.Records()
		if len(l) < flushed || len(l) > len(row) || !slices.EqualFunc(l, row[:len(l)], same) {
			t.Fatalf("armed %d: %d records, %d flushed, %d appended", armed, len(l), flushed, len(row))
		}
		q.all()
		q.put(record(4, []byte("and on")))
		x.flush()
		if again, _ := x.open(16).p.Records(); len(again) != len(l)+1 || !slices.EqualFunc(again[:len(l)], l, same) {
			t.Fatalf("armed %d: %d records, and one behind them, are %d", armed, len(l), len(again))
		}
	}
}

// Behind a flush they are just those that were appended, whatever stood there before.
func TestBehindAFlush(t *testing.T) {
	chances := rand.New(rand.NewSource(3))
	image := bytesOf(slices.Repeat([]api.Record{filling(9, 8)}, whole/8)...)
	x := on(t, image, 0)
	for range 60 {
		q := x.fresh(0)
		for range 1 + chances.Intn(20) {
			r := some(chances)
			if chances.Intn(3) == 0 {
				if n := 256 - (whole-q.p.Room())%256; n >= 7 && n != noRecord {
					r = filling(8, n)
				}
			}
			q.appends(r)
		}
		l, places := q.p.Records()
		if len(l) == 0 {
			continue
		}
		x.flush()
		p := x.open(0)
		if got, at := p.p.Records(); !slices.EqualFunc(got, l, same) || !slices.Equal(at, places) || p.p.Room() != q.p.Room() {
			t.Fatalf("opened anew: %d records at %v instead of %d at %v", len(got), at, len(l), places)
		}
	}
}

// All calls by chance on two packs of a device, against the words.
func TestChances(t *testing.T) {
	for seed := range 60 {
		chances := rand.New(rand.NewSource(int64(seed)))
		x := on(t, noise(140), 5)
		at := []int{6 + chances.Intn(4), 74 + chances.Intn(3)}
		packs := []pair{x.fresh(at[0]), x.fresh(at[1])}
		for range 120 {
			i := chances.Intn(2)
			q := packs[i]
			switch chances.Intn(12) {
			case 0:
				e := x.d.Flush()
				if f := x.twin.Flush(); e != f {
					t.Fatalf("Flush answers %d, %d", e, f)
				}
			case 1:
				x.arm(chances.Intn(40))
			case 2:
				var keep []int
				for _, at := range x.d.Cached() {
					if chances.Intn(2) == 0 {
						keep = append(keep, at)
					}
				}
				x.crash(keep...)
				x.start()
			case 3:
				if p, e := x.opens(at[i]); e == api.OK {
					packs[i] = p
				}
			case 4:
				if p, e := x.freshes(at[i]); e == api.OK {
					packs[i] = p
				}
			case 5, 6:
				q.all()
				q.reads(chances.Intn(2000))
			default:
				q.appends(some(chances))
			}
			x.alike()
		}
	}
}

// The rules that hold everywhere.

// What is handed in stays, is kept nowhere, and what stands behind its end is nobody's.
func TestArgumentsStay(t *testing.T) {
	x := blank(t, 64)
	q := x.fresh(0)
	room := []byte{1, 2, 3, 4, 5, 6}
	q.put(record(1, room[:3]))
	if !bytes.Equal(room, []byte{1, 2, 3, 4, 5, 6}) {
		t.Errorf("Data that were handed in have changed: %v", room)
	}
	clear(room)
	q.is()
	q.all()
	if l, _ := q.p.Records(); !same(l[0], record(1, []byte{1, 2, 3})) {
		t.Errorf("what was appended changes with what was handed in: %v", l)
	}
}

// Answers are the caller's own.
func TestAnswersAreNewMemory(t *testing.T) {
	x := blank(t, 64)
	q := x.fresh(0)
	q.put(record(1, []byte("first")))
	q.put(record(2, []byte("second")))
	x.flush()
	for _, q := range []pair{q, x.open(0)} {
		l, places := q.p.Records()
		again, others := q.p.Records()
		r, _ := q.p.Read(0)
		clear(l[0].Data)
		_ = append(l[0].Data, bytes.Repeat([]byte{9}, 20)...)
		l[1] = api.Record{}
		_ = append(l[:1], api.Record{}, api.Record{})
		clear(places)
		_ = append(places[:0], 7, 7, 7)
		clear(r.Data)
		if !same(again[0], record(1, []byte("first"))) || !same(again[1], record(2, []byte("second"))) || !slices.Equal(others, []int{0, 12}) {
			t.Errorf("answers are bound together: %v at %v", again, others)
		}
		q.is()
		q.all()
		q.put(record(3, []byte("third")))
		if len(again) != 2 || len(others) != 2 {
			t.Errorf("an answer grows: %v at %v", again, others)
		}
		x.flush()
	}
}

// Packs know nothing of one another: what one does on a device of its own no other one feels.
func TestPacksKnowNothingOfOneAnother(t *testing.T) {
	var wait sync.WaitGroup
	for i := range 8 {
		wait.Go(func() {
			chances := rand.New(rand.NewSource(int64(i)))
			d, _ := disk.New(64, nil)
			p, _ := pack.Fresh(d, 0)
			w, _ := freshByWords(d, 0)
			for range 300 {
				r := some(chances)
				off, e := p.Append(r)
				if e == api.ErrFull {
					continue
				}
				w.l, w.places = append(w.l, r), append(w.places, off)
				got, f := p.Read(off)
				if l, places := p.Records(); e != api.OK || f != api.OK || !same(got, r) || !slices.EqualFunc(l, w.l, same) || !slices.Equal(places, w.places) {
					t.Errorf("among other packs: %d, %d, %d, %d records at %v", off, e, f, len(l), places)
				}
			}
		})
	}
	wait.Wait()
	x := blank(t, 128)
	one, other := x.fresh(0), x.fresh(64)
	one.put(filling(1, 8192))
	one.put(filling(1, 8192))
	if other.p.Room() != 16384 {
		t.Errorf("the other pack has room for %d", other.p.Room())
	}
	other.put(filling(2, 100))
	one.is()
	one.all()
	other.all()
}

// The same calls answer the same.
func TestTheSameCallsAnswerTheSame(t *testing.T) {
	x := on(t, noise(64), 0)
	q := x.fresh(0)
	q.put(filling(1, 5000))
	q.put(filling(2, 100))
	x.flush()
	for range 3 {
		q.is()
		q.all()
		q.unread(1, api.ErrPack)
		p := x.open(0)
		p.all()
		if p.p.Room() != 16384-5100 {
			t.Errorf("room for %d", p.p.Room())
		}
	}
}

// On the greatest device, full of packs.
func TestTheGreatestDevice(t *testing.T) {
	x := blank(t, 4096)
	for at := 0; at < 4096; at += 64 {
		q := x.fresh(at)
		q.put(filling(byte(at/64), 8192))
		q.put(filling(byte(at/64), 8192))
	}
	x.flush()
	for at := 0; at < 4096; at += 64 {
		q := x.open(at)
		if l, _ := q.p.Records(); len(l) != 2 || !same(l[1], filling(byte(at/64), 8192)) || q.p.Room() != 0 {
			t.Errorf("the pack at %d: %d records, room for %d", at, len(l), q.p.Room())
		}
	}
}
