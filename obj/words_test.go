package obj_test

import (
	"encoding/binary"
	"encoding/hex"
	"math"
	"regexp"
	"strings"
	"unicode/utf8"

	"palimpsest/api"
	"palimpsest/obj"
)

// Chapter 8 once more, in this test's own words and by the library: how objects are written and read, and which may be.

// layer is all that is done with objects of one type: by the package, and by this test.
type layer[T any] struct {
	put   func(T) ([]byte, api.Errno)
	get   func([]byte) (T, api.Errno)
	write func(T) []byte         // writes even what may not be
	read  func([]byte) (T, bool) // tells whether all of the bytes are fields, whatever they say
	may   func(T) bool
	plain func(T) T // with nil for each empty list, in new memory
}

func metas() layer[api.Meta] {
	return layer[api.Meta]{obj.PutMeta, obj.GetMeta, writeMeta, readMeta, mayMeta, plainMeta}
}

func listings() layer[api.Listing] {
	return layer[api.Listing]{obj.PutListing, obj.GetListing, writeListing, readListing, mayListing, plainListing}
}

func pages() layer[api.Page] {
	return layer[api.Page]{obj.PutPage, obj.GetPage, writePage, readPage, mayPage, plainPage}
}

func roots() layer[api.Root] {
	return layer[api.Root]{obj.PutRoot, obj.GetRoot, writeRoot, readRoot, mayRoot, plainRoot}
}

// script is bytes that are written.
type script []byte

func (s *script) number(l ...int) {
	for _, x := range l {
		*s = binary.AppendUvarint(*s, uint64(x))
	}
}

func (s *script) text(t string) {
	s.number(len(t))
	*s = append(*s, t...)
}

func (s *script) key(k api.Key) {
	b, _ := hex.DecodeString(string(k))
	*s = append(*s, b...)
}

func writeMeta(m api.Meta) []byte {
	var s script
	s.number(int(m.Kind), m.Mode, m.Links, m.Size)
	s.text(m.Target)
	s.number(len(m.Attrs))
	for _, a := range m.Attrs {
		s.text(a.Name)
		s.text(string(a.Value))
	}
	s.number(len(m.Refs))
	for _, r := range m.Refs {
		if r.Key == "" {
			s.number(0, r.Lower, r.Off)
		} else {
			s.number(1)
			s.key(r.Key)
		}
		s.number(r.N)
	}
	return s
}

func writeListing(l api.Listing) []byte {
	var s script
	if l.Opaque {
		s.number(1)
	} else {
		s.number(0)
	}
	s.number(len(l.Names))
	for _, n := range l.Names {
		s.text(n)
	}
	s.number(l.Nums...)
	return s
}

func writePage(p api.Page) []byte {
	var s script
	s.number(len(p.Nums))
	s.number(p.Nums...)
	for _, k := range p.Keys {
		s.key(k)
	}
	return s
}

func writeRoot(r api.Root) []byte {
	var s script
	s.number(r.Next, len(r.Pages))
	for _, k := range r.Pages {
		s.key(k)
	}
	return s
}

// tape is bytes that are read: cut, once there are too few, or a number is none.
type tape struct {
	b   []byte
	cut bool
}

func (t *tape) number() int {
	x, n := binary.Uvarint(t.b)
	if n <= 0 || x > math.MaxInt32 || len(binary.AppendUvarint(nil, x)) != n {
		t.cut, t.b = true, nil
		return 0
	}
	t.b = t.b[n:]
	return int(x)
}

func (t *tape) bytes(n int) []byte {
	if n > len(t.b) {
		t.cut, t.b = true, nil
		return nil
	}
	b := t.b[:n]
	t.b = t.b[n:]
	return b
}

func (t *tape) text() string { return string(t.bytes(t.number())) }

func (t *tape) key() api.Key { return api.Key(hex.EncodeToString(t.bytes(32))) }

func (t *tape) flag() bool {
	x := t.number()
	t.cut = t.cut || x > 1
	return x == 1
}

// times does something as often as a number says, while there are bytes.
func (t *tape) times(n int, do func()) {
	for i := 0; i < n && !t.cut; i++ {
		do()
	}
}

func (t *tape) whole() bool { return !t.cut && len(t.b) == 0 }

func readMeta(b []byte) (api.Meta, bool) {
	t := &tape{b: b}
	m := api.Meta{Kind: api.Kind(t.number()), Mode: t.number(), Links: t.number(), Size: t.number(), Target: t.text()}
	t.times(t.number(), func() {
		m.Attrs = append(m.Attrs, api.Attr{Name: t.text(), Value: []byte(t.text())})
	})
	t.times(t.number(), func() {
		var r api.Ref
		if t.flag() {
			r.Key = t.key()
		} else {
			r.Lower, r.Off = t.number(), t.number()
		}
		r.N = t.number()
		m.Refs = append(m.Refs, r)
	})
	return m, t.whole()
}

func readListing(b []byte) (api.Listing, bool) {
	t := &tape{b: b}
	l := api.Listing{Opaque: t.flag()}
	t.times(t.number(), func() { l.Names = append(l.Names, t.text()) })
	t.times(len(l.Names), func() { l.Nums = append(l.Nums, t.number()) })
	return l, t.whole()
}

func readPage(b []byte) (api.Page, bool) {
	t := &tape{b: b}
	var p api.Page
	t.times(t.number(), func() { p.Nums = append(p.Nums, t.number()) })
	t.times(len(p.Nums), func() { p.Keys = append(p.Keys, t.key()) })
	return p, t.whole()
}

func readRoot(b []byte) (api.Root, bool) {
	t := &tape{b: b}
	r := api.Root{Next: t.number()}
	t.times(t.number(), func() { r.Pages = append(r.Pages, t.key()) })
	return r, t.whole()
}

// all tells whether each thing that is said is so.
func all(said ...bool) bool {
	for _, so := range said {
		if !so {
			return false
		}
	}
	return true
}

func from(least, x, most int) bool { return x >= least && x <= most }

var digits = regexp.MustCompile(`^[0-9a-f]{64}\z`)

func mayKey(k api.Key) bool { return digits.MatchString(string(k)) }

func mayKeys(l []api.Key) bool {
	for _, k := range l {
		if !mayKey(k) {
			return false
		}
	}
	return true
}

func mayNames(l []string) bool {
	for i, s := range l {
		if !all(from(1, len(s), 100), s != ".", s != "..", utf8.ValidString(s), !strings.ContainsAny(s, "/\x00")) {
			return false
		}
		if i > 0 && strings.Compare(l[i-1], s) >= 0 {
			return false
		}
	}
	return true
}

func mayMeta(m api.Meta) bool {
	var names []string
	values := true
	for _, a := range m.Attrs {
		names = append(names, a.Name)
		values = values && len(a.Value) <= 256
	}
	size, refs := 0, true
	for _, r := range m.Refs {
		size += r.N
		if r.Key != "" {
			refs = refs && all(mayKey(r.Key), r.Lower == 0, r.Off == 0, from(1, r.N, 2048))
		} else {
			refs = refs && all(from(1, r.Lower, 512), from(0, r.Off, 32768), from(1, r.N, 32768))
		}
	}
	target := m.Target == ""
	if m.Kind == 3 {
		target = all(from(1, len(m.Target), 1000), !strings.Contains(m.Target, "\x00"), len(m.Refs) == 0, m.Size == 0)
	}
	return all(from(1, int(m.Kind), 3), from(0, m.Mode, 4095), from(0, m.Links, 64), from(0, m.Size, 32768), target,
		len(names) <= 8, mayNames(names), values, len(m.Refs) <= 128, refs, size == m.Size)
}

func mayListing(l api.Listing) bool {
	for _, n := range l.Nums {
		if !from(0, n, 1024) || l.Opaque && n == 0 {
			return false
		}
	}
	return all(len(l.Names) <= 256, mayNames(l.Names), len(l.Nums) == len(l.Names))
}

func mayPage(p api.Page) bool {
	for i, n := range p.Nums {
		if !from(1, n, 1024) || i > 0 && p.Nums[i-1] >= n {
			return false
		}
	}
	return all(len(p.Nums) <= 32, len(p.Keys) == len(p.Nums), mayKeys(p.Keys))
}

func mayRoot(r api.Root) bool {
	return all(from(1, r.Next, 1025), len(r.Pages) <= 64, mayKeys(r.Pages))
}

// list answers a row in new memory: nil of an empty one.
func list[T any](l []T) []T { return append([]T(nil), l...) }

func plainMeta(m api.Meta) api.Meta {
	m.Attrs, m.Refs = list(m.Attrs), list(m.Refs)
	for i, a := range m.Attrs {
		m.Attrs[i].Value = list(a.Value)
	}
	return m
}

func plainListing(l api.Listing) api.Listing {
	l.Names, l.Nums = list(l.Names), list(l.Nums)
	return l
}

func plainPage(p api.Page) api.Page {
	p.Nums, p.Keys = list(p.Nums), list(p.Keys)
	return p
}

func plainRoot(r api.Root) api.Root {
	r.Pages = list(r.Pages)
	return r
}
