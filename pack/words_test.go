package pack_test

import (
	"bytes"
	"crypto/sha256"
	"encoding/binary"
	"encoding/hex"
	"hash/crc32"
	"slices"

	"palimpsest/api"
	"palimpsest/disk"
)

// What the chapter says, in these tests' own words: a pack on a device of its own, of which just the sectors' bytes are asked.

const (
	sectors = 64
	whole   = sectors * 256 // bytes of a pack
	longest = 8192          // bytes of Data
)

func keyByWords(kind byte, data []byte) api.Key {
	sum := sha256.Sum256(append([]byte{kind}, data...))
	return api.Key(hex.EncodeToString(sum[:]))
}

// framed answers a record's bytes, whether or not it may be.
func framed(kind byte, data []byte) []byte {
	b := binary.AppendUvarint([]byte{0xa5, kind}, uint64(len(data)))
	b = append(b, data...)
	return binary.LittleEndian.AppendUint32(b, crc32.ChecksumIEEE(b))
}

// beginning answers the record that b begins with, and how many bytes it has; 0, if it begins with none.
func beginning(b []byte) (api.Record, int) {
	if len(b) < 3 {
		return api.Record{}, 0
	}
	n, size := binary.Uvarint(b[2:min(len(b), 5)])
	if size <= 0 || n > longest || 2+size+int(n)+4 > len(b) {
		return api.Record{}, 0
	}
	data := b[2+size:][:n]
	if b[1] < 1 || b[1] > 4 || !bytes.HasPrefix(b, framed(b[1], data)) {
		return api.Record{}, 0
	}
	return api.Record{Kind: int(b[1]), Key: keyByWords(b[1], data), Data: bytes.Clone(data)}, 2 + size + int(n) + 4
}

// scanned answers the records that b begins with, where each begins, and where the last one ends.
func scanned(b []byte) ([]api.Record, []int, int) {
	var l []api.Record
	var places []int
	at := 0
	for r, n := beginning(b); n > 0; r, n = beginning(b[at:]) {
		l, places = append(l, r), append(places, at)
		at += n
	}
	return l, places, at
}

// words is a pack by the chapter's words.
type words struct {
	d      *disk.Device
	at     int
	l      []api.Record
	places []int
	last   int // where the last one ends
	noRoom bool
}

// all answers the bytes of the sectors of a pack, or why they cannot be read.
func all(d *disk.Device, at int) ([]byte, api.Errno) {
	var b []byte
	for i := range sectors {
		s, e := d.Read(at + i)
		if e != api.OK {
			return nil, e
		}
		b = append(b, s...)
	}
	return b, api.OK
}

// areSectors tells whether each of a pack's sectors is one of a device's.
func areSectors(d *disk.Device, at int) bool {
	n, _ := d.Size()
	for i := range sectors {
		// Of sectors below 0 and far away a sum that goes round would be one.
		if at < 0 || at > api.MaxDisk || at+i >= n {
			return false
		}
	}
	return true
}

func openByWords(d *disk.Device, at int) (*words, api.Errno) {
	if !areSectors(d, at) {
		return nil, api.ErrSector
	}
	b, e := all(d, at)
	if e != api.OK {
		return nil, e
	}
	l, places, last := scanned(b)
	return &words{d: d, at: at, l: l, places: places, last: last}, api.OK
}

func freshByWords(d *disk.Device, at int) (*words, api.Errno) {
	_, lower := d.Size()
	switch {
	case !areSectors(d, at):
		return nil, api.ErrSector
	case at < lower:
		return nil, api.ErrLower
	}
	if _, e := all(d, at); e != api.OK {
		return nil, api.ErrDead
	}
	return &words{d: d, at: at}, api.OK
}

func (w *words) room() int {
	if w.noRoom {
		return 0
	}
	return whole - w.last
}

func (w *words) append(r api.Record) (int, api.Errno) {
	if r.Kind < 1 || r.Kind > 4 || len(r.Data) > longest || r.Key != keyByWords(byte(r.Kind), r.Data) {
		return 0, api.ErrFrame
	}
	put := framed(byte(r.Kind), r.Data)
	if len(put) > w.room() {
		return 0, api.ErrFull
	}
	b, e := all(w.d, w.at)
	w.noRoom = true
	if e != api.OK {
		return 0, e
	}
	begin, end := w.last, w.last+len(put)
	copy(b[begin:], put)
	// Noughts up to where a sector begins behind the end.
	for i := end; i < whole && (i == end || i%256 != 0); i++ {
		b[i] = 0
	}
	for i := begin / 256; i <= end/256 && i < sectors; i++ {
		if e := w.d.Write(w.at+i, b[256*i:][:256]); e != api.OK {
			return 0, e
		}
	}
	w.noRoom, w.last = false, end
	w.l = append(w.l, api.Record{Kind: r.Kind, Key: r.Key, Data: bytes.Clone(r.Data)})
	w.places = append(w.places, begin)
	return begin, api.OK
}

func (w *words) read(off int) (api.Record, api.Errno) {
	i := slices.Index(w.places, off)
	if i < 0 {
		return api.Record{}, api.ErrPack
	}
	b, e := all(w.d, w.at)
	if e != api.OK {
		return api.Record{}, e
	}
	r, n := beginning(b[off:])
	if n == 0 || r.Key != w.l[i].Key {
		return api.Record{}, api.ErrHash
	}
	return r, api.OK
}

// same tells whether two records are one: nil and empty Data are.
func same(r, s api.Record) bool {
	return r.Kind == s.Kind && r.Key == s.Key && bytes.Equal(r.Data, s.Data)
}
