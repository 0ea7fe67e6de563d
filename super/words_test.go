package super_test

import (
	"bytes"
	"encoding/binary"
	"encoding/hex"
	"hash/crc32"
	"math"
	"slices"
	"strings"

	"palimpsest/api"
)

// What the chapter says, in these tests' own words, by the library: fields at their places in 256 bytes.

const (
	whole = 256
	packs = 62
	last  = 1<<62 - 1 // the greatest Gen
)

// fields is what a superblock's bytes say, each field by itself, whether or not it may be.
type fields struct {
	mark string
	gen  uint64
	root []byte
	bits uint64
}

// sealed answers the sector of fields, with the sum of them all.
func (f fields) sealed() []byte {
	b := []byte(f.mark)
	b = binary.LittleEndian.AppendUint64(b, f.gen)
	b = append(b, f.root...)
	b = binary.LittleEndian.AppendUint64(b, f.bits)
	b = binary.LittleEndian.AppendUint32(b, crc32.ChecksumIEEE(b))
	return append(b, make([]byte, whole-len(b))...)
}

// fieldsOf answers what the bytes of a superblock that may be would say.
func fieldsOf(s api.Super) fields {
	root, _ := hex.DecodeString(string(s.Root))
	f := fields{mark: "PLMP", gen: uint64(s.Gen), root: root}
	for i := range packs {
		if slices.Contains(s.Packs, i) {
			f.bits += uint64(math.Pow(2, float64(i)))
		}
	}
	return f
}

func mayBeByWords(s api.Super) bool {
	if s.Gen < 1 || s.Gen > last || len(s.Root) != 64 || strings.Trim(string(s.Root), "0123456789abcdef") != "" {
		return false
	}
	once := map[int]int{}
	for _, p := range s.Packs {
		once[p]++
	}
	for p, n := range once {
		if p < 0 || p >= packs || n > 1 {
			return false
		}
	}
	return slices.IsSorted(s.Packs)
}

func putByWords(s api.Super) ([]byte, api.Errno) {
	if !mayBeByWords(s) {
		return nil, api.ErrSuper
	}
	return fieldsOf(s).sealed(), api.OK
}

// getByWords looks at each field of a sector by itself.
func getByWords(b []byte) (api.Super, api.Errno) {
	if len(b) != whole || string(b[:4]) != "PLMP" || !bytes.Equal(b[56:], make([]byte, whole-56)) {
		return api.Super{}, api.ErrSuper
	}
	gen, bits, sum := binary.LittleEndian.Uint64(b[4:]), binary.LittleEndian.Uint64(b[44:]), binary.LittleEndian.Uint32(b[52:])
	if gen == 0 || gen > last || bits >= 1<<packs || sum != crc32.ChecksumIEEE(b[:52]) {
		return api.Super{}, api.ErrSuper
	}
	s := api.Super{Gen: int(gen), Root: api.Key(hex.EncodeToString(b[12:44]))}
	for i := 0; bits > 0; i++ {
		if bits%2 == 1 {
			s.Packs = append(s.Packs, i)
		}
		bits /= 2
	}
	return s, api.OK
}

func chooseByWords(a, b []byte) (api.Super, int, api.Errno) {
	s, e := getByWords(a)
	r, f := getByWords(b)
	switch {
	case e != api.OK && f != api.OK:
		return api.Super{}, -1, api.ErrSuper
	case e != api.OK:
		return r, 1, api.OK
	case f != api.OK:
		return s, 0, api.OK
	case r.Gen > s.Gen:
		return r, 1, api.OK
	}
	return s, 0, api.OK
}

func nextByWords(s api.Super, root api.Key, l []int) (api.Super, api.Errno) {
	// The last Gen has none behind it; this is asked ahead of adding, since the sum might go round.
	if !mayBeByWords(s) || s.Gen == last {
		return api.Super{}, api.ErrSuper
	}
	n := api.Super{Gen: s.Gen + 1, Root: root}
	for p := range packs {
		if slices.Contains(l, p) {
			n.Packs = append(n.Packs, p)
		}
	}
	for _, p := range l {
		if !slices.Contains(n.Packs, p) {
			return api.Super{}, api.ErrSuper
		}
	}
	if !mayBeByWords(n) {
		return api.Super{}, api.ErrSuper
	}
	return n, api.OK
}

// same tells whether two superblocks are one: nil and empty packs are.
func same(s, r api.Super) bool {
	return s.Gen == r.Gen && s.Root == r.Root && slices.Equal(s.Packs, r.Packs)
}
