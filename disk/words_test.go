package disk_test

import (
	"bytes"
	"math"
	"slices"
	"testing"

	"palimpsest/api"
	"palimpsest/disk"
)

// What the chapter says, in these tests' own words: a device as a row of bytes, and a list of all that was written since the last flush or crash.

// written is one write.
type written struct {
	at int
	b  []byte
}

// words is a device by the chapter's words.
type words struct {
	image  []byte
	lower  int
	since  []written // since the last flush or crash, in the order of the calls
	dead   bool
	armed  bool
	doomed uint64 // how many writes and flushes were OK, when the one comes that finds no power
	writes uint64
}

func (w *words) size() int { return len(w.image) / 256 }

// cached answers what was written last to a sector since the last flush or crash.
func (w *words) cached(at int) ([]byte, bool) {
	for _, x := range slices.Backward(w.since) {
		if x.at == at {
			return x.b, true
		}
	}
	return nil, false
}

// inSectors puts all that was written to such sectors into them, one write behind the other.
func (w *words) inSectors(such func(at int) bool) {
	for _, x := range w.since {
		if such(x.at) {
			copy(w.image[256*x.at:], x.b)
		}
	}
	w.since = nil
}

// goes tells whether a write or flush that would be OK is.
func (w *words) goes() bool {
	if w.armed && w.writes == w.doomed {
		w.dead = true
		return false
	}
	w.writes++
	return true
}

func (w *words) read(at int) ([]byte, api.Errno) {
	if w.dead {
		return nil, api.ErrDead
	}
	if at < 0 || at >= w.size() {
		return nil, api.ErrSector
	}
	if b, ok := w.cached(at); ok {
		return b, api.OK
	}
	return w.image[256*at:][:256], api.OK
}

func (w *words) write(at int, b []byte) api.Errno {
	_, e := w.read(at)
	switch {
	case e != api.OK:
		return e
	case at < w.lower:
		return api.ErrLower
	case len(b) != 256:
		return api.ErrArg
	case !w.goes():
		return api.ErrDead
	}
	w.since = append(w.since, written{at, bytes.Clone(b)})
	return api.OK
}

func (w *words) flush() api.Errno {
	if w.dead || !w.goes() {
		return api.ErrDead
	}
	w.inSectors(func(int) bool { return true })
	return api.OK
}

func (w *words) arm(n int) {
	w.armed = n >= 0
	w.doomed = w.writes + uint64(max(n, 0))
}

func (w *words) crash(keep []int) {
	w.inSectors(func(at int) bool { return slices.Contains(keep, at) })
	w.dead, w.armed = true, false
}

func (w *words) start() { w.dead, w.armed = false, false }

func (w *words) list() []int {
	var l []int
	for at := range w.size() {
		if _, ok := w.cached(at); ok {
			l = append(l, at)
		}
	}
	return l
}

// isRead holds what is read of a sector against the words.
func (w *words) isRead(t *testing.T, d *disk.Device, at int) {
	t.Helper()
	b, e := d.Read(at)
	want, f := w.read(at)
	if e != f || !bytes.Equal(b, want) {
		t.Fatalf("Read of %d answers %s, %d instead of %s, %d", at, told(b), e, told(want), f)
	}
}

// is holds all that a device answers against the words.
func (w *words) is(t *testing.T, d *disk.Device) {
	t.Helper()
	if n, lower := d.Size(); n != w.size() || lower != w.lower {
		t.Fatalf("Size answers %d, %d instead of %d, %d", n, lower, w.size(), w.lower)
	}
	for at := -1; at <= w.size(); at++ {
		w.isRead(t, d, at)
	}
	for _, at := range []int{math.MinInt, math.MaxInt, -256, api.MaxDisk} {
		w.isRead(t, d, at)
	}
	if l := d.Cached(); !slices.Equal(l, w.list()) {
		t.Fatalf("Cached answers %v instead of %v", l, w.list())
	}
	if b := d.Image(); !bytes.Equal(b, w.image) {
		t.Fatalf("Image answers %s instead of %s", told(b), told(w.image))
	}
	if n := d.Writes(); uint64(n) != w.writes {
		t.Fatalf("Writes answers %d instead of %d", n, w.writes)
	}
}
