package store_test

import (
	"bytes"
	"crypto/sha256"
	"encoding/binary"
	"encoding/hex"
	"hash/crc32"
	"maps"
	"slices"

	"palimpsest/api"
	"palimpsest/disk"
)

// What the chapter says, in these tests' own words: a store of which nothing is kept but maps, and of which a device is asked for its sectors' bytes alone.

const (
	sector  = 256
	sectors = 64            // of a pack
	whole   = 64 * 256      // bytes of a pack
	longest = 8192          // bytes of a record's Data
	lastGen = 1<<62 - 1     // there is none behind it
	tail    = 256 - 56      // noughts behind a superblock's sum
	bareMin = 2 + 2*sectors // sectors behind the lower ones that a store needs
)

func keyByWords(kind int, data []byte) api.Key {
	sum := sha256.Sum256(append([]byte{byte(kind)}, data...))
	return api.Key(hex.EncodeToString(sum[:]))
}

// framed answers a record's bytes, whether or not it may be.
func framed(kind int, data []byte) []byte {
	b := binary.AppendUvarint([]byte{0xa5, byte(kind)}, uint64(len(data)))
	b = append(b, data...)
	return binary.LittleEndian.AppendUint32(b, crc32.ChecksumIEEE(b))
}

// item is a record, and where it stands.
type item struct {
	kind int
	key  api.Key
	data []byte
	off  int
	size int
}

// beginning answers the record that b begins with; one of no size, if it begins with none.
func beginning(b []byte) item {
	if len(b) < 3 {
		return item{}
	}
	n, digits := binary.Uvarint(b[2:min(len(b), 5)])
	if digits <= 0 || n > longest || 2+digits+int(n)+4 > len(b) {
		return item{}
	}
	kind, data := int(b[1]), b[2+digits:][:n]
	if kind < 1 || kind > 4 || !bytes.HasPrefix(b, framed(kind, data)) {
		return item{}
	}
	return item{kind: kind, key: keyByWords(kind, data), data: bytes.Clone(data), size: 2 + digits + int(n) + 4}
}

// scanned answers the records that b begins with, and where the last one ends.
func scanned(b []byte) ([]item, int) {
	var l []item
	at := 0
	for {
		x := beginning(b[at:])
		if x.size == 0 {
			return l, at
		}
		x.off = at
		l = append(l, x)
		at += x.size
	}
}

// block is a superblock.
type block struct {
	gen   int
	root  api.Key
	packs []int
}

// blocked answers a superblock's sector, whether or not it may be.
func blocked(s block) []byte {
	root, _ := hex.DecodeString(string(s.root))
	var bits uint64
	for _, n := range s.packs {
		bits |= 1 << n
	}
	b := binary.LittleEndian.AppendUint64([]byte("PLMP"), uint64(s.gen))
	b = binary.LittleEndian.AppendUint64(append(b, root...), bits)
	b = binary.LittleEndian.AppendUint32(b, crc32.ChecksumIEEE(b))
	return append(b, make([]byte, tail)...)
}

// unblocked answers the superblock of a sector; one of Gen 0, if it is none.
func unblocked(b []byte) block {
	s := block{gen: int(binary.LittleEndian.Uint64(b[4:])), root: api.Key(hex.EncodeToString(b[12:44]))}
	for n := range 62 {
		if binary.LittleEndian.Uint64(b[44:])>>n&1 == 1 {
			s.packs = append(s.packs, n)
		}
	}
	if s.gen < 1 || s.gen > lastGen || !bytes.Equal(b, blocked(s)) {
		return block{}
	}
	return s
}

// words is a store by the chapter's words.
type words struct {
	base  int // the first sector behind the lower ones
	slots int
	spare int // the superblock that does not count
	gen   int
	root  api.Key
	ends  map[int]int  // of each pack, where its last record ends
	held  map[int]bool // the packs that were dropped since the last Commit
	index map[api.Key]api.Entry
	kinds map[api.Key]int
	data  map[api.Key][]byte
	dead  bool
}

// packAt answers the bytes of a pack, as they are with the cache.
func packAt(d *disk.Device, at int) []byte {
	var b []byte
	for i := range sectors {
		s, _ := d.Read(at + i)
		b = append(b, s...)
	}
	return b
}

func openByWords(d *disk.Device) (*words, api.Errno) {
	n, base := d.Size()
	w := &words{base: base, ends: map[int]int{}, held: map[int]bool{}, index: map[api.Key]api.Entry{}, kinds: map[api.Key]int{}, data: map[api.Key][]byte{}}
	for at := base + 2; at+sectors <= n && w.slots < 62; at += sectors {
		w.slots++
	}
	if w.slots < 2 {
		return nil, api.ErrArg
	}
	a, e := d.Read(base)
	if e != api.OK {
		return nil, e
	}
	b, _ := d.Read(base + 1)
	if bytes.Count(a, []byte{0})+bytes.Count(b, []byte{0}) == 2*sector {
		return w, api.OK
	}
	s, other := unblocked(a), unblocked(b)
	w.spare = 1
	if other.gen > s.gen {
		s, w.spare = other, 0
	}
	if s.gen == 0 || len(s.packs) > 0 && s.packs[len(s.packs)-1] >= w.slots {
		return nil, api.ErrSuper
	}
	w.gen, w.root = s.gen, s.root
	for _, n := range s.packs {
		l, end := scanned(packAt(d, w.at(n)))
		w.ends[n] = end
		for _, x := range l {
			if _, met := w.index[x.key]; !met {
				w.takes(n, x)
			}
		}
	}
	return w, api.OK
}

// at answers the first sector of a pack.
func (w *words) at(n int) int { return w.base + 2 + sectors*n }

// takes has the index say that a record is in a pack, and keeps its Refs.
func (w *words) takes(n int, x item) {
	w.index[x.key] = api.Entry{Key: x.key, Pack: n, Off: x.off, Size: x.size, Refs: w.index[x.key].Refs}
	w.kinds[x.key], w.data[x.key] = x.kind, x.data
}

// may answers the packs to which so many bytes may go, none of not: those that have room, or those of free slots.
func (w *words) may(size int, not []int) []int {
	var roomy, free []int
	for n := range w.slots {
		end, there := w.ends[n]
		switch {
		case slices.Contains(not, n), !there && w.held[n]:
		case there && end+size <= whole:
			roomy = append(roomy, n)
		case !there:
			free = append(free, n)
		}
	}
	if len(roomy) > 0 {
		return roomy
	}
	return free
}

// drop lets a pack go.
func (w *words) drop(n int) api.Errno {
	if _, there := w.ends[n]; !there {
		return api.ErrPack
	}
	delete(w.ends, n)
	w.held[n] = true
	maps.DeleteFunc(w.index, func(_ api.Key, e api.Entry) bool { return e.Pack == n })
	return api.OK
}

// refer counts those that refer.
func (w *words) refer(k api.Key, by int) api.Errno {
	e, there := w.index[k]
	if !there {
		return api.ErrNone
	}
	const many = 1 << 31
	// So that nothing goes round.
	if by < -many || by > many || e.Refs+by < 0 || e.Refs+by > many {
		return api.ErrArg
	}
	e.Refs += by
	w.index[k] = e
	return api.OK
}

// switches has the root be another one.
func (w *words) switches(root api.Key) {
	w.gen, w.root, w.spare = w.gen+1, root, 1-w.spare
	clear(w.held)
}

// packs answers the packs' numbers, rising.
func (w *words) packs() []int { return slices.Sorted(maps.Keys(w.ends)) }

// row answers the index's entries by rising keys.
func (w *words) row() []api.Entry {
	var l []api.Entry
	for _, k := range slices.Sorted(maps.Keys(w.index)) {
		l = append(l, w.index[k])
	}
	return l
}
