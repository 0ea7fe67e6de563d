package frame_test

import (
	"bytes"
	"crypto/sha256"
	"encoding/binary"
	"encoding/hex"
	"hash/crc32"
	"slices"

	"palimpsest/api"
)

// What the chapter says, in these tests' own words, by the library.

const longest = 8192 // bytes of Data

// parts is what a record's bytes are, each part by itself, whether or not it may be.
type parts struct {
	first  byte
	kind   byte
	length []byte
	data   []byte
}

// sealed answers the bytes of parts, with the sum of them all.
func (p parts) sealed() []byte {
	b := slices.Concat([]byte{p.first, p.kind}, p.length, p.data)
	return binary.LittleEndian.AppendUint32(b, crc32.ChecksumIEEE(b))
}

// partsOf answers the parts of a record of a kind with those Data.
func partsOf(kind byte, data []byte) parts {
	return parts{0xa5, kind, binary.AppendUvarint(nil, uint64(len(data))), data}
}

func keyByWords(kind byte, data []byte) api.Key {
	sum := sha256.Sum256(append([]byte{kind}, data...))
	return api.Key(hex.EncodeToString(sum[:]))
}

func putByWords(r api.Record) ([]byte, api.Errno) {
	if r.Kind <= 0 || r.Kind >= 5 || len(r.Data) > longest || r.Key != keyByWords(byte(r.Kind), r.Data) {
		return nil, api.ErrFrame
	}
	return partsOf(byte(r.Kind), r.Data).sealed(), api.OK
}

// lengthByWords answers what a length at the beginning of b says, and how many bytes it has; how many is 0, if b ends within it, -1, if it is none.
func lengthByWords(b []byte) (uint64, int) {
	last := slices.IndexFunc(b, func(c byte) bool { return c < 128 })
	if last < 0 {
		return 0, 0
	}
	x, n := binary.Uvarint(b[:last+1])
	if n != last+1 || !bytes.Equal(binary.AppendUvarint(nil, x), b[:n]) {
		return 0, -1
	}
	return x, n
}

// nextByWords asks first, as the chapter names it first, whether b ends too soon.
func nextByWords(b []byte) (api.Record, int, api.Errno) {
	if len(b) < 3 {
		return api.Record{}, 0, api.ErrShort
	}
	length, n := lengthByWords(b[2:])
	if n == 0 {
		return api.Record{}, 0, api.ErrShort
	}
	if n < 0 {
		return api.Record{}, 0, api.ErrFrame
	}
	rest := b[2+n:]
	if length > uint64(len(rest)) || uint64(len(rest))-length < 4 {
		return api.Record{}, 0, api.ErrShort
	}
	if length > longest {
		return api.Record{}, 0, api.ErrFrame
	}
	data, size := rest[:length], 2+n+int(length)+4
	if b[0] != 0xa5 || b[1] < 1 || b[1] > 4 || !bytes.Equal(b[:size], partsOf(b[1], data).sealed()) {
		return api.Record{}, 0, api.ErrFrame
	}
	return api.Record{Kind: int(b[1]), Key: keyByWords(b[1], data), Data: data}, size, api.OK
}

func scanByWords(b []byte) ([]api.Record, []int, int) {
	var records []api.Record
	var places []int
	at := 0
	for r, n, e := nextByWords(b); e == api.OK; r, n, e = nextByWords(b[at:]) {
		records, places = append(records, r), append(places, at)
		at += n
	}
	return records, places, at
}

// same tells whether two records are one: nil and empty Data are.
func same(r, s api.Record) bool {
	return r.Kind == s.Kind && r.Key == s.Key && bytes.Equal(r.Data, s.Data)
}
