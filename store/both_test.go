package store_test

import (
	"bytes"
	"math"
	"math/rand"
	"slices"
	"testing"

	"palimpsest/api"
	"palimpsest/disk"
	"palimpsest/store"
)

// both is a store, and the same by the chapter's words.
type both struct {
	*testing.T
	d *disk.Device
	s *store.Store
	w *words

	last  pledge // of the last Commit that was OK
	other pledge // of the one within which the power went
}

// pledge is what a Commit promises: whenever the power goes behind it, its root is there, and all that the index had.
type pledge struct {
	gen   int
	root  api.Key
	kinds map[api.Key]int
	data  map[api.Key][]byte
}

// pledged answers what the words promise, if they switch to a root.
func (x *both) pledged(gen int, root api.Key) pledge {
	p := pledge{gen, root, map[api.Key]int{}, map[api.Key][]byte{}}
	for k := range x.w.index {
		p.kinds[k], p.data[k] = x.w.kinds[k], x.w.data[k]
	}
	return p
}

// device answers a device of so many lower sectors, and of sectors behind them for so many packs, all noughts.
func device(t *testing.T, lower, packs int) *disk.Device {
	t.Helper()
	return loaded(t, make([]byte, sector*(lower+2+sectors*packs)), lower)
}

func loaded(t *testing.T, image []byte, lower int) *disk.Device {
	t.Helper()
	d, e := disk.Load(image, lower)
	if e != api.OK {
		t.Fatalf("Load of %d bytes, %d sectors lower, answers %d", len(image), lower, e)
	}
	return d
}

// opens holds Open against the words.
func opens(t *testing.T, d *disk.Device) (*both, api.Errno) {
	t.Helper()
	was := d.Writes()
	s, e := store.Open(d)
	w, want := openByWords(d)
	if e != want || (s == nil) != (w == nil) {
		t.Fatalf("Open answers a store: %v, %d instead of %d", s != nil, e, want)
	}
	if d.Writes() != was {
		t.Fatalf("Open writes %d times", d.Writes()-was)
	}
	if s == nil {
		return nil, e
	}
	x := &both{T: t, d: d, s: s, w: w}
	x.is()
	x.last = x.pledged(w.gen, w.root)
	return x, e
}

// opened answers the store of a device that has one.
func opened(t *testing.T, d *disk.Device) *both {
	t.Helper()
	x, e := opens(t, d)
	if e != api.OK {
		t.Fatalf("Open answers %d", e)
	}
	return x
}

// fresh answers a store on a device of noughts.
func fresh(t *testing.T, packs int) *both { t.Helper(); return opened(t, device(t, 1, packs)) }

// again answers the store that a stop leaves, of what the cache has just that of the sectors in keep, and holds it against what was promised.
func (x *both) again(keep ...int) *both {
	x.Helper()
	x.d.Crash(keep)
	x.d.Start()
	return x.anew(x.d)
}

// anew opens the store anew, on a device that is left of its own, and holds it against what was promised, which it goes on to promise.
func (x *both) anew(d *disk.Device) *both {
	x.Helper()
	y := opened(x.T, d)
	x.Helper()
	root, gen := y.s.Root()
	p := x.last
	if x.other.gen != 0 && gen == x.other.gen {
		p = x.other
	}
	if root != p.root || gen != p.gen {
		x.Fatalf("opened anew, the root is %.9s, Gen %d, instead of %.9s, %d or %.9s, %d", root, gen, x.last.root, x.last.gen, x.other.root, x.other.gen)
	}
	for k, data := range p.data {
		if b, e := y.s.Get(p.kinds[k], k); e != api.OK || !bytes.Equal(b, data) {
			x.Fatalf("opened anew, Gen %d: Get of %.9s, of %d bytes, answers %d bytes, %d", gen, k, len(data), len(b), e)
		}
	}
	y.last = p
	return y
}

// is holds what a store says of itself against the words.
func (x *both) is() {
	x.Helper()
	if root, gen := x.s.Root(); root != x.w.root || gen != x.w.gen {
		x.Fatalf("Root answers %q, %d instead of %q, %d", root, gen, x.w.root, x.w.gen)
	}
	if l := x.s.Packs(); !slices.Equal(l, x.w.packs()) {
		x.Fatalf("Packs answers %v instead of %v", l, x.w.packs())
	}
	if n, want := x.s.Free(), x.w.slots-len(x.w.ends)-len(x.w.held); n != want {
		x.Fatalf("Free answers %d instead of %d", n, want)
	}
	for n := -2; n < 66; n++ {
		x.uses(n)
	}
	for _, n := range []int{math.MinInt, math.MinInt + 1, -64, 1 << 32, math.MaxInt} {
		x.uses(n)
	}
	if l := x.s.Index(); !slices.Equal(l, x.w.row()) {
		x.Fatalf("Index answers %v instead of %v", l, x.w.row())
	}
}

func (x *both) uses(n int) {
	x.Helper()
	if used := x.s.Used(n); used != x.w.ends[n] {
		x.Fatalf("Used of %d answers %d instead of %d", n, used, x.w.ends[n])
	}
}

// on tells whether the device has power.
func (x *both) on() bool {
	_, e := x.d.Read(0)
	return e == api.OK
}

// view answers what is read of each sector.
func (x *both) view() []byte {
	n, _ := x.d.Size()
	var b []byte
	for at := range n {
		s, _ := x.d.Read(at)
		b = append(b, s...)
	}
	return b
}

// still is what does not change by a call that writes nothing.
type still struct {
	writes int
	view   []byte
	on     bool
}

func (x *both) still() still { return still{x.d.Writes(), x.view(), x.on()} }

// refused holds what a call answered against an error behind which nothing is written.
func (x *both) refused(what string, e, want api.Errno, was still) {
	x.Helper()
	if e != want {
		x.Fatalf("%s answers %d instead of %d", what, e, want)
	}
	x.w.dead = x.w.dead || e == api.ErrDead
	if x.d.Writes() != was.writes || !bytes.Equal(x.view(), was.view) {
		x.Fatalf("%s answers %d, and has written", what, e)
	}
	x.is()
}

// wrote holds what a call answered that writes, since nothing but the power may speak against it, and tells whether it has.
func (x *both) wrote(what string, e api.Errno, was still) bool {
	x.Helper()
	if x.w.dead || !was.on {
		x.refused(what, e, api.ErrDead, was)
		return false
	}
	want := api.OK
	if !x.on() {
		want = api.ErrDead
	}
	if e != want {
		x.Fatalf("%s answers %d instead of %d", what, e, want)
	}
	x.w.dead = e == api.ErrDead
	if x.w.dead {
		x.is()
	}
	return e == api.OK
}

// stands holds where a record was written, one of the packs that it may go to, and what was written with it.
func (x *both) stands(what string, r item, may []int, was still) {
	x.Helper()
	l := x.s.Index()
	i := slices.IndexFunc(l, func(e api.Entry) bool { return e.Key == r.key })
	if i < 0 || !slices.Contains(may, l[i].Pack) {
		x.Fatalf("%s: the record is none of the packs %v: %v", what, may, l)
	}
	n := l[i].Pack
	r.off, r.size = x.w.ends[n], len(framed(r.kind, r.data))
	x.w.takes(n, r)
	x.w.ends[n] = r.off + r.size
	delete(x.w.held, n)
	x.is()
	at := sector * x.w.at(n)
	view := x.view()
	if !bytes.Equal(view[at+r.off:][:r.size], framed(r.kind, r.data)) {
		x.Fatalf("%s: the record's bytes are not at %d of pack %d", what, r.off, n)
	}
	// Behind the record no more is written than up to the end of the sector behind it.
	to := at + min(whole, (x.w.ends[n]/sector+1)*sector)
	if !bytes.Equal(view[:at+r.off], was.view[:at+r.off]) || !bytes.Equal(view[to:], was.view[to:]) {
		x.Fatalf("%s: something else was written", what)
	}
}

// puts holds Put against the words, and answers what it answered.
func (x *both) puts(kind int, data []byte) (api.Key, api.Errno) {
	x.Helper()
	was := x.still()
	k, e := x.s.Put(kind, data)
	x.hasPut(kind, data, k, e, was)
	return k, e
}

func (x *both) hasPut(kind int, data []byte, k api.Key, e api.Errno, was still) {
	x.Helper()
	const what = "Put"
	key := keyByWords(kind, data)
	if want := map[bool]api.Key{true: key}[e == api.OK]; k != want {
		x.Fatalf("Put of kind %d, %d bytes answers %q, %d instead of %q", kind, len(data), k, e, want)
	}
	if kind < 1 || kind > 4 || len(data) > longest {
		x.refused(what, e, api.ErrFrame, was)
		return
	}
	if _, there := x.w.index[key]; there {
		x.refused(what, e, api.OK, was)
		return
	}
	may := x.w.may(len(framed(kind, data)), nil)
	if len(may) == 0 {
		x.refused(what, e, api.ErrFull, was)
		return
	}
	if x.wrote(what, e, was) {
		x.stands(what, item{kind: kind, key: key, data: bytes.Clone(data)}, may, was)
	}
}

// moves holds Move against the words, and answers what it answered.
func (x *both) moves(k api.Key, not ...int) api.Errno {
	x.Helper()
	const what = "Move"
	was := x.still()
	e := x.s.Move(k, not)
	entry, there := x.w.index[k]
	if !there {
		x.refused(what, e, api.ErrNone, was)
		return e
	}
	may := x.w.may(entry.Size, append(slices.Clone(not), entry.Pack))
	if len(may) == 0 {
		x.refused(what, e, api.ErrFull, was)
		return e
	}
	if was.on && !x.w.dead && !x.there(entry, was.view) {
		x.refused(what, e, api.ErrHash, was)
		return e
	}
	if x.wrote(what, e, was) {
		x.stands(what, item{kind: x.w.kinds[k], key: k, data: x.w.data[k]}, may, was)
	}
	return e
}

// there tells whether the bytes of an entry's record are there.
func (x *both) there(e api.Entry, view []byte) bool {
	return beginning(view[sector*x.w.at(e.Pack):][:whole][e.Off:]).key == e.Key
}

// gets holds Get against the words, and answers what it answered.
func (x *both) gets(kind int, k api.Key) ([]byte, api.Errno) {
	x.Helper()
	was := x.still()
	b, e := x.s.Get(kind, k)
	entry, there := x.w.index[k]
	want := api.OK
	switch {
	case !there:
		want = api.ErrNone
	case x.w.kinds[k] != kind:
		want = api.ErrObj
	case !was.on:
		want = api.ErrDead
	case !x.there(entry, was.view):
		want = api.ErrHash
	}
	x.refused("Get", e, want, was)
	if data := x.w.data[k]; e == api.OK && !bytes.Equal(b, data) || e != api.OK && len(b) != 0 {
		x.Fatalf("Get of kind %d, %.9s answers %d bytes, %d instead of %d bytes", kind, k, len(b), e, len(data))
	}
	return b, e
}

// all gets all that the index has.
func (x *both) all() {
	x.Helper()
	for k := range x.w.index {
		x.gets(x.w.kinds[k], k)
	}
}

// commits holds Commit against the words, and answers what it answered.
func (x *both) commits(root api.Key) api.Errno {
	x.Helper()
	const what = "Commit"
	was := x.still()
	next := x.pledged(x.w.gen+1, root)
	e := x.s.Commit(root)
	_, there := x.w.index[root]
	switch {
	case !there:
		x.refused(what, e, api.ErrNone, was)
		return e
	case x.w.gen == lastGen:
		x.refused(what, e, api.ErrSuper, was)
		return e
	}
	if was.on && !x.w.dead {
		x.other = next
	}
	if !x.wrote(what, e, was) {
		return e
	}
	at := x.w.base + x.w.spare
	x.w.switches(root)
	x.last, x.other = next, pledge{}
	x.is()
	copy(was.view[sector*at:], blocked(block{x.w.gen, root, x.w.packs()}))
	if !bytes.Equal(x.d.Image(), was.view) || len(x.d.Cached()) != 0 || x.d.Writes() != was.writes+3 {
		x.Fatalf("Commit has not flushed what was written, and the superblock of Gen %d in sector %d, by three writes: %d, %v not flushed", x.w.gen, at, x.d.Writes()-was.writes, x.d.Cached())
	}
	return e
}

// drops holds Drop against the words, and answers what it answered.
func (x *both) drops(n int) api.Errno {
	x.Helper()
	was := x.still()
	e := x.s.Drop(n)
	x.refused("Drop", e, x.w.drop(n), was)
	return e
}

// refers holds Refer against the words, and answers what it answered.
func (x *both) refers(k api.Key, by int) api.Errno {
	x.Helper()
	was := x.still()
	e := x.s.Refer(k, by)
	x.refused("Refer", e, x.w.refer(k, by), was)
	return e
}

// put puts what may be put.
func (x *both) put(kind int, data []byte) api.Key {
	x.Helper()
	k, e := x.puts(kind, data)
	if e != api.OK {
		x.Fatalf("Put of kind %d, %d bytes answers %d", kind, len(data), e)
	}
	return k
}

// fill puts a content whose record has just so many bytes.
func (x *both) fill(c byte, n int) api.Key { x.Helper(); return x.put(api.KindChunk, filling(c, n)) }

// ok needs that a call was not refused.
func (x *both) ok(e api.Errno) {
	x.Helper()
	if e != api.OK {
		x.Fatalf("refused with %d", e)
	}
}

// no needs that a call was refused with an error.
func (x *both) no(e, want api.Errno) {
	x.Helper()
	if e != want {
		x.Fatalf("answered %d instead of %d", e, want)
	}
}

// notPut needs that Put refuses a content with an error.
func (x *both) notPut(kind int, data []byte, want api.Errno) {
	x.Helper()
	_, e := x.puts(kind, data)
	x.no(e, want)
}

// notGot needs that Get refuses a key with an error.
func (x *both) notGot(kind int, k api.Key, want api.Errno) {
	x.Helper()
	_, e := x.gets(kind, k)
	x.no(e, want)
}

// write writes a sector of the device past the store.
func (x *both) write(at int, b []byte) {
	x.Helper()
	if e := x.d.Write(at, b); e != api.OK {
		x.Fatalf("Write to %d answers %d", at, e)
	}
}

// filling answers Data of c whose record has n bytes: 7 or more, but not 135, as the length of more Data has one byte more.
func filling(c byte, n int) []byte {
	if n > 135 {
		n--
	}
	return bytes.Repeat([]byte{c}, n-7)
}

// chance answers n bytes by chance.
func chance(r *rand.Rand, n int) []byte {
	b := make([]byte, n)
	r.Read(b)
	return b
}

// noise answers n sectors without order, the same ones each time.
func noise(n int) []byte { return chance(rand.New(rand.NewSource(int64(n))), sector*n) }
