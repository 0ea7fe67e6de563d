package obj_test

import (
	"bytes"
	"crypto/sha256"
	"encoding/hex"
	"fmt"
	"math"
	"math/rand"
	"reflect"
	"slices"
	"strings"
	"sync"
	"testing"

	"palimpsest/api"
	"palimpsest/obj"
)

// key answers a key of its own for each number.
func key(n int) api.Key {
	d := sha256.Sum256([]byte{byte(n), byte(n >> 8)})
	return api.Key(hex.EncodeToString(d[:]))
}

// many answers n things, made of their numbers from 0 on.
func many[T any](n int, make func(int) T) []T {
	var l []T
	for i := range n {
		l = append(l, make(i))
	}
	return l
}

// names answers n names, rising.
func names(n int) []string {
	return many(n, func(i int) string { return string([]byte{'a' + byte(i/26), 'a' + byte(i%26)}) })
}

func keys(n int) []api.Key { return many(n, key) }

// numbers answers n numbers from first on.
func numbers(first, n int) []int { return many(n, func(i int) int { return first + i }) }

func attrs(names ...string) []api.Attr {
	return many(len(names), func(i int) api.Attr { return api.Attr{Name: names[i]} })
}

// below answers a piece of a lower file.
func below(lower, off, n int) api.Ref { return api.Ref{Lower: lower, Off: off, N: n} }

// chunk answers a piece that is a chunk.
func chunk(k, n int) api.Ref { return api.Ref{Key: key(k), N: n} }

// node answers a file of these pieces, its Size what they have together.
func node(l ...api.Ref) api.Meta {
	m := api.Meta{Kind: api.File, Mode: 420, Links: 1, Refs: l}
	for _, r := range l {
		m.Size += r.N
	}
	return m
}

// link answers a symbolic link.
func link(target string) api.Meta {
	return api.Meta{Kind: api.Link, Mode: 511, Links: 1, Target: target}
}

// with answers a node that was changed.
func with(m api.Meta, change func(*api.Meta)) api.Meta {
	m = plainMeta(m)
	change(&m)
	return m
}

// full answers a file that has as much of all as it may.
func full() api.Meta {
	m := node(many(128, func(i int) api.Ref {
		if i%3 == 0 {
			return below(512-i, 32768-i, 256)
		}
		return chunk(i, 256)
	})...)
	m.Mode, m.Links = 4095, 64
	m.Attrs = many(8, func(i int) api.Attr {
		return api.Attr{Name: strings.Repeat(string(rune('a'+i)), 100), Value: bytes.Repeat([]byte{byte(i)}, 256)}
	})
	return m
}

// rightMetas answers nodes that may be: ordinary ones, and those at each edge.
func rightMetas() []api.Meta {
	l := []api.Meta{
		{Kind: api.File},
		{Kind: api.Dir},
		{Kind: api.Dir, Mode: 493, Links: 1, Attrs: attrs("a")},
		{Kind: api.Dir, Links: 64, Size: 2048, Refs: []api.Ref{chunk(1, 2048)}},
		{Kind: api.Dir, Size: 7, Refs: []api.Ref{below(1, 0, 7)}},
		node(chunk(1, 1)),
		node(chunk(1, 2047)),
		node(chunk(1, 2048)),
		node(below(1, 0, 1)),
		node(below(1, 0, 32768)),
		node(below(512, 32768, 2049)),
		node(below(512, 32768, 32768)),
		node(below(511, 32767, 32767)),
		node(below(7, 300, 512), chunk(2, 600), chunk(3, 90)),
		node(chunk(2, 600), below(7, 0, 1), chunk(2, 600), below(7, 0, 1), below(6, 0, 1), chunk(2, 599)),
		node(many(16, func(i int) api.Ref { return chunk(9-i%3, 2048) })...),
		node(many(128, func(i int) api.Ref { return chunk(0, 1) })...),
		node(many(127, func(i int) api.Ref { return below(1, i, 1) })...),
		node(below(1, 0, 16384), below(1, 16384, 16384)),
		link("x"),
		link("/"),
		link("../a//b/./"),
		link("\xff\x01\n"),
		link("é\U00010000"),
		link(strings.Repeat("x", 999)),
		link(strings.Repeat("x", 1000)),
		with(link("x"), func(m *api.Meta) { m.Links, m.Attrs = 64, attrs("a", "b") }),
		full(),
	}
	for _, at := range []int{0, 1, 127, 128, 4094, 4095} {
		l = append(l, api.Meta{Kind: api.File, Mode: at}, api.Meta{Kind: api.Link, Mode: at, Target: "t"})
	}
	for links := range 65 {
		l = append(l, api.Meta{Kind: api.File, Links: links})
	}
	for _, names := range rightNames() {
		l = append(l, api.Meta{Kind: api.File, Attrs: attrs(names[:min(8, len(names))]...)})
	}
	for _, n := range []int{0, 1, 127, 128, 255, 256} {
		value := bytes.Repeat([]byte{0xff}, n)
		l = append(l, api.Meta{Kind: api.File, Attrs: []api.Attr{{Name: "a", Value: value}, {Name: "b", Value: value}}})
	}
	for n := range 9 {
		l = append(l, api.Meta{Kind: api.Dir, Attrs: attrs(names(n)...)})
	}
	return l
}

// rightNames answers rows of names that may be, with a few kinds of rising.
func rightNames() [][]string {
	return [][]string{
		{"a"},
		{"a", "b"},
		{"B", "a"},
		{"10", "9"},
		{"a", "aa", "ab", "b"},
		{"a", "a\x01", "a "},
		{" ", "\"", "...", ".a"},
		{"..a", "a.", "a.."},
		{"\x01", "\\", "\x7f"},
		{"z", "é", "\ufffd", "\uffff", "\U00010000", "\U0010ffff"},
		{strings.Repeat("x", 99), strings.Repeat("x", 100)},
		{strings.Repeat("é", 50)},
		names(8),
	}
}

// wrongNames answers rows of names that may not be.
func wrongNames() [][]string {
	return [][]string{
		{""}, {"."}, {".."}, {"/"}, {"a/b"}, {"a/"}, {"\x00"}, {"a\x00"},
		{"\xff"}, {"a\xc3"}, {"\xed\xa0\x80"}, {"\xc0\xaf"}, {"\xf4\x90\x80\x80"},
		{strings.Repeat("x", 101)}, {strings.Repeat("é", 51)}, {strings.Repeat("x", 1000)}, {strings.Repeat("x", 4000)},
		{"a", "a"}, {"b", "a"}, {"a", "b", "b"}, {"a", "c", "b"}, {"b", "c", "a"}, {"a", "b", "a"},
		{"a", "B"}, {"9", "10"}, {"aa", "a"}, {"é", "z"}, {"\U00010000", "\uffff"},
		{"", "a"}, {"a", ""}, {"a", "b/", "c"}, {".", "a"}, {"a", "b", "\xff"},
	}
}

// wrongKeys answers texts that are no keys, and not empty.
func wrongKeys() []api.Key {
	k := key(1)
	return []api.Key{"0", k[1:], k + "0", k[:62], k + k, api.Key(strings.ToUpper(string(k))), k[:63] + "g", k[:63] + "F", " " + k[1:], k[:63] + "\n", api.Key(strings.Repeat("\xff", 64)), api.Key(strings.Repeat("é", 32)), api.Key(strings.Repeat("\x00", 32))}
}

// wrongMetas answers nodes that may not be, each for one reason, which their bytes would have too.
func wrongMetas() []api.Meta {
	l := []api.Meta{
		{},
		{Kind: 4},
		{Kind: -1},
		{Kind: 1 + 1<<32},
		{Kind: math.MaxInt},
		{Kind: math.MinInt},
		with(link("x"), func(m *api.Meta) { m.Kind = 4 }),
		link(""),
		link("\x00"),
		link("a\x00b"),
		link("abc\x00"),
		link(strings.Repeat("x", 1001)),
		link(strings.Repeat("x", 3000)),
		with(link("x"), func(m *api.Meta) { m.Size = 1 }),
		with(link("x"), func(m *api.Meta) { m.Size, m.Refs = 1, []api.Ref{chunk(1, 1)} }),
		with(link("x"), func(m *api.Meta) { m.Size, m.Refs = 5, []api.Ref{below(1, 0, 5)} }),
		with(link("x"), func(m *api.Meta) { m.Refs = []api.Ref{below(1, 0, 5)} }),
		{Kind: api.File, Target: "x"},
		{Kind: api.Dir, Target: "x"},
		{Kind: api.Dir, Target: "\x00"},
		node(chunk(1, 0)),
		node(chunk(1, 2049)),
		node(chunk(1, 32768)),
		node(below(1, 0, 0)),
		node(below(1, 0, 32769)),
		node(below(0, 0, 1)),
		node(below(513, 0, 1)),
		node(below(-1, 0, 1)),
		node(below(1, -1, 1)),
		node(below(1, 32769, 1)),
		node(below(1, math.MaxInt, 1)),
		node(below(1+1<<32, 0, 1)),
		node(below(1, 1<<32, 1)),
		node(below(1, 0, 32768), chunk(1, 1)),
		node(below(1, 0, 32768), below(1, 0, 32768)),
		node(chunk(1, 5), chunk(2, 0)),
		node(chunk(1, 0), chunk(2, 5)),
		node(chunk(1, 5), chunk(2, -1)),
		node(chunk(1, 5), below(2, 0, -1)),
		node(below(1, 0, 5), below(2, 0, 0), below(3, 0, 5)),
		node(below(1, 0, math.MaxInt), below(1, 0, math.MaxInt), below(1, 0, 7)),
		node(chunk(1, 1<<32+1)),
		node(many(17, func(i int) api.Ref { return chunk(i, 2048) })...),
		node(many(129, func(i int) api.Ref { return chunk(1, 1) })...),
		node(many(129, func(i int) api.Ref { return below(1, 0, 1) })...),
		node(many(300, func(i int) api.Ref { return below(1, 0, 1) })...),
		{Kind: api.File, Attrs: attrs(names(9)...)},
		{Kind: api.Link, Target: "x", Attrs: attrs(names(9)...)},
		{Kind: api.File, Attrs: attrs(names(200)...)},
	}
	for _, x := range []int{-1, 4096, 4097, 1 << 32, math.MaxInt, math.MinInt} {
		l = append(l, api.Meta{Kind: api.File, Mode: x})
	}
	for _, x := range []int{-1, 65, 66, 1<<32 + 1, math.MaxInt, math.MinInt} {
		l = append(l, api.Meta{Kind: api.File, Links: x})
	}
	for _, x := range []int{-1, 1, 32768, 32769, 1 << 32, math.MaxInt, math.MinInt} {
		l = append(l, api.Meta{Kind: api.File, Size: x}, api.Meta{Kind: api.Dir, Size: x})
	}
	for _, by := range []int{-1, 1, -600, 2048, 1 << 32} {
		l = append(l, with(node(chunk(1, 600), below(1, 0, 600)), func(m *api.Meta) { m.Size += by }))
	}
	for _, n := range []int{257, 258, 1000, 1001, 5000} {
		l = append(l, api.Meta{Kind: api.File, Attrs: []api.Attr{{Name: "a", Value: make([]byte, n)}}}, api.Meta{Kind: api.File, Attrs: []api.Attr{{Name: "a"}, {Name: "b", Value: make([]byte, n)}}})
	}
	for _, names := range wrongNames() {
		l = append(l, api.Meta{Kind: api.File, Attrs: attrs(names...)})
	}
	return l
}

// lostMetas answers nodes that may not be, but would have the bytes of another one, or none.
func lostMetas() []api.Meta {
	l := []api.Meta{
		node(api.Ref{Key: key(1), Lower: 1, N: 5}),
		node(api.Ref{Key: key(1), Off: 1, N: 5}),
		node(api.Ref{Key: key(1), Lower: 1, Off: 1, N: 5}),
		node(api.Ref{Key: key(1), Lower: -1, N: 5}),
		node(api.Ref{Key: key(1), Off: -1, N: 5}),
	}
	for _, k := range wrongKeys() {
		l = append(l, node(api.Ref{Key: k, N: 5}), node(api.Ref{Key: k, Lower: 1, N: 5}), node(chunk(1, 5), api.Ref{Key: k, N: 5}))
	}
	return l
}

func rightListings() []api.Listing {
	l := []api.Listing{
		{},
		{Opaque: true},
		{Names: []string{"a"}, Nums: []int{0}},
		{Names: []string{"a", "b", "c"}, Nums: []int{0, 0, 0}},
		{Names: []string{"a", "b", "c"}, Nums: []int{1024, 7, 0}},
		{Names: []string{"a", "b", "c"}, Nums: []int{5, 5, 5}},
		{Opaque: true, Names: []string{"a", "b"}, Nums: []int{5, 5}},
		{Names: names(255), Nums: make([]int, 255)},
	}
	for _, opaque := range []bool{false, true} {
		for _, num := range []int{1, 2, 127, 128, 512, 513, 1023, 1024} {
			l = append(l, api.Listing{Opaque: opaque, Names: []string{"a", "b"}, Nums: []int{num, 1}})
		}
		for _, n := range []int{1, 127, 128, 129, 255, 256} {
			l = append(l, api.Listing{Opaque: opaque, Names: names(n), Nums: numbers(1, n)})
		}
		for _, names := range rightNames() {
			l = append(l, api.Listing{Opaque: opaque, Names: names, Nums: numbers(1, len(names))})
		}
	}
	return l
}

func wrongListings() []api.Listing {
	l := []api.Listing{
		{Opaque: true, Names: []string{"a"}, Nums: []int{0}},
		{Opaque: true, Names: []string{"a", "b"}, Nums: []int{1, 0}},
		{Opaque: true, Names: []string{"a", "b"}, Nums: []int{0, 1}},
		{Nums: []int{1}},
		{Names: []string{"a"}},
		{Names: []string{"a", "b"}, Nums: []int{1}},
		{Names: []string{"a"}, Nums: []int{1, 2}},
		{Names: []string{"a"}, Nums: []int{0, 0}},
		{Opaque: true, Nums: []int{1}},
		{Opaque: true, Names: []string{"a"}},
		{Names: names(256), Nums: make([]int, 255)},
		{Names: names(255), Nums: make([]int, 256)},
	}
	for _, opaque := range []bool{false, true} {
		for _, num := range []int{-1, 1025, 1026, 1 << 32, 1<<32 + 1, math.MaxInt, math.MinInt} {
			l = append(l, api.Listing{Opaque: opaque, Names: []string{"a"}, Nums: []int{num}}, api.Listing{Opaque: opaque, Names: []string{"a", "b"}, Nums: []int{1, num}})
		}
		for _, n := range []int{257, 300, 512} {
			l = append(l, api.Listing{Opaque: opaque, Names: names(n), Nums: numbers(1, n)})
		}
		for _, names := range wrongNames() {
			l = append(l, api.Listing{Opaque: opaque, Names: names, Nums: numbers(1, len(names))})
		}
	}
	return l
}

func rightPages() []api.Page {
	l := []api.Page{
		{},
		{Nums: []int{1, 1024}, Keys: keys(2)},
		{Nums: []int{3, 4, 700}, Keys: []api.Key{key(9), key(2), key(5)}},
		{Nums: []int{3, 4, 700}, Keys: []api.Key{key(9), key(9), key(9)}},
		{Nums: []int{5}, Keys: []api.Key{api.Key(strings.Repeat("0", 64))}},
		{Nums: []int{5}, Keys: []api.Key{api.Key(strings.Repeat("f", 64))}},
		{Nums: numbers(1, 31), Keys: keys(31)},
		{Nums: numbers(1, 32), Keys: keys(32)},
		{Nums: numbers(993, 32), Keys: keys(32)},
		{Nums: many(32, func(i int) int { return 32*i + 7 }), Keys: keys(32)},
	}
	for _, num := range []int{1, 2, 127, 128, 512, 513, 1023, 1024} {
		l = append(l, api.Page{Nums: []int{num}, Keys: keys(1)})
	}
	return l
}

func wrongPages() []api.Page {
	l := []api.Page{
		{Nums: []int{1}},
		{Keys: keys(1)},
		{Nums: []int{1, 2}, Keys: keys(1)},
		{Nums: []int{1}, Keys: keys(2)},
		{Nums: numbers(1, 33), Keys: keys(33)},
		{Nums: numbers(1, 33), Keys: keys(32)},
		{Nums: numbers(1, 32), Keys: keys(33)},
		{Nums: numbers(1, 200), Keys: keys(200)},
		{Nums: []int{1, 1}, Keys: keys(2)},
		{Nums: []int{2, 1}, Keys: keys(2)},
		{Nums: []int{1, 3, 2}, Keys: keys(3)},
		{Nums: []int{1, 2, 2}, Keys: keys(3)},
		{Nums: []int{2, 3, 1}, Keys: keys(3)},
		{Nums: []int{0, 1}, Keys: keys(2)},
		{Nums: []int{1, 1025}, Keys: keys(2)},
	}
	for _, num := range []int{0, -1, 1025, 1026, 1<<32 + 1, math.MaxInt, math.MinInt} {
		l = append(l, api.Page{Nums: []int{num}, Keys: keys(1)})
	}
	return l
}

func lostPages() []api.Page {
	var l []api.Page
	for _, k := range append(wrongKeys(), "") {
		l = append(l, api.Page{Nums: []int{1}, Keys: []api.Key{k}}, api.Page{Nums: []int{1, 2}, Keys: []api.Key{key(1), k}}, api.Page{Nums: []int{1, 2}, Keys: []api.Key{k, key(1)}})
	}
	return l
}

func rightRoots() []api.Root {
	l := []api.Root{
		{Next: 3, Pages: []api.Key{key(2), key(1), key(3)}},
		{Next: 3, Pages: []api.Key{key(2), key(2)}},
		{Next: 1025, Pages: many(64, func(int) api.Key { return key(7) })},
	}
	for _, next := range []int{1, 2, 3, 127, 128, 513, 1024, 1025} {
		l = append(l, api.Root{Next: next}, api.Root{Next: next, Pages: keys(1)})
	}
	for n := range 65 {
		l = append(l, api.Root{Next: 2, Pages: keys(n)})
	}
	return l
}

func wrongRoots() []api.Root {
	l := []api.Root{
		{},
		{Pages: keys(1)},
		{Next: 2, Pages: keys(65)},
		{Next: 2, Pages: keys(66)},
		{Next: 2, Pages: keys(128)},
		{Next: 2, Pages: keys(300)},
	}
	for _, next := range []int{0, -1, 1026, 1027, 1<<32 + 1, math.MaxInt, math.MinInt} {
		l = append(l, api.Root{Next: next}, api.Root{Next: next, Pages: keys(3)})
	}
	return l
}

func lostRoots() []api.Root {
	var l []api.Root
	for _, k := range append(wrongKeys(), "") {
		l = append(l, api.Root{Next: 1, Pages: []api.Key{k}}, api.Root{Next: 1, Pages: []api.Key{key(1), k}}, api.Root{Next: 1, Pages: []api.Key{k, key(1)}})
	}
	return l
}

// told answers what an object or bytes are, as far as a line shows it.
func told(x any) string {
	s := fmt.Sprintf("%+v", x)
	if b, ok := x.([]byte); ok {
		s = hex.EncodeToString(b)
	}
	if len(s) > 500 {
		s = s[:500] + " .."
	}
	return strings.ToValidUTF8(s, "?")
}

// hasBytes asks that an object has just these bytes, and they are just that object.
func hasBytes[T any](t *testing.T, of layer[T], x T, want []byte) {
	t.Helper()
	if b, e := of.put(x); !bytes.Equal(b, want) || e != api.OK {
		t.Errorf("Put(%s): %s, %d, not %s", told(x), told(b), e, told(want))
	}
	if got, e := of.get(want); !reflect.DeepEqual(of.plain(got), of.plain(x)) || e != api.OK {
		t.Errorf("Get(%s): %s, %d, not %s", told(want), told(got), e, told(x))
	}
}

// isRefused asks that an object may not be.
func isRefused[T any](t *testing.T, of layer[T], x T) {
	t.Helper()
	if b, e := of.put(x); len(b) != 0 || e != api.ErrObj {
		t.Errorf("Put(%s): %s, %d", told(x), told(b), e)
	}
}

// areRefused asks that bytes are no object, and that nothing is answered for them.
func areRefused[T any](t *testing.T, of layer[T], b []byte) {
	t.Helper()
	var none T
	if got, e := of.get(b); !reflect.DeepEqual(of.plain(got), none) || e != api.ErrObj {
		t.Errorf("Get(%s): %s, %d", told(b), told(got), e)
	}
}

// P8.1, P8.2 and P8.3: objects by their bytes

func hexed(t *testing.T, s string) []byte {
	t.Helper()
	b, err := hex.DecodeString(strings.Join(strings.Fields(s), ""))
	if err != nil {
		t.Fatal(err)
	}
	return b
}

const (
	zeros = "0000000000000000000000000000000000000000000000000000000000000000"
	digit = "000102030405060708090a0b0c0d0e0f101112131415161718191a1b1c1d1eff"
)

func TestMetasByTheirBytes(t *testing.T) {
	for _, c := range []struct {
		m api.Meta
		b string
	}{
		{api.Meta{Kind: api.File}, "01 00 00 00 00 00 00"},
		{api.Meta{Kind: api.Dir, Mode: 493, Links: 1}, "02 ed03 01 00 00 00 00"},
		{api.Meta{Kind: api.Link, Mode: 511, Links: 64, Target: "/é"}, "03 ff03 40 00 03 2f c3a9 00 00"},
		{
			api.Meta{Kind: api.File, Mode: 4095, Attrs: []api.Attr{{Name: "a", Value: []byte{0, 255}}, {Name: "bc"}}},
			"01 ff1f 00 00 00 02 0161 0200ff 026263 00 00",
		},
		{
			api.Meta{Kind: api.File, Links: 2, Size: 2348, Refs: []api.Ref{{Lower: 512, Off: 32768, N: 299}, {Key: digit, N: 2048}, {Key: zeros, N: 1}}},
			"01 00 02 ac12 00 00 03" + "00 8004 808002 ab02" + "01" + digit + "8010" + "01" + zeros + "01",
		},
		{
			api.Meta{Kind: api.Dir, Mode: 1, Links: 2, Size: 3, Attrs: []api.Attr{{Name: "k", Value: []byte("v")}}, Refs: []api.Ref{{Lower: 4, Off: 5, N: 3}}},
			"02 01 02 03 00 01 016b 0176 01 00 04 05 03",
		},
	} {
		hasBytes(t, metas(), c.m, hexed(t, c.b))
	}
}

func TestListingsByTheirBytes(t *testing.T) {
	for _, c := range []struct {
		l api.Listing
		b string
	}{
		{api.Listing{}, "00 00"},
		{api.Listing{Opaque: true}, "01 00"},
		{api.Listing{Names: []string{"a", "bc"}, Nums: []int{1024, 0}}, "00 02 0161 026263 8008 00"},
		{api.Listing{Opaque: true, Names: []string{"a", "b", "é"}, Nums: []int{3, 3, 200}}, "01 03 0161 0162 02c3a9 03 03 c801"},
	} {
		hasBytes(t, listings(), c.l, hexed(t, c.b))
	}
}

func TestPagesByTheirBytes(t *testing.T) {
	for _, c := range []struct {
		p api.Page
		b string
	}{
		{api.Page{}, "00"},
		{api.Page{Nums: []int{1}, Keys: []api.Key{digit}}, "01 01" + digit},
		{api.Page{Nums: []int{7, 1024}, Keys: []api.Key{digit, zeros}}, "02 07 8008" + digit + zeros},
	} {
		hasBytes(t, pages(), c.p, hexed(t, c.b))
	}
}

func TestRootsByTheirBytes(t *testing.T) {
	for _, c := range []struct {
		r api.Root
		b string
	}{
		{api.Root{Next: 3}, "03 00"},
		{api.Root{Next: 1025, Pages: []api.Key{digit}}, "8108 01" + digit},
		{api.Root{Next: 1, Pages: []api.Key{digit, zeros, digit}}, "01 03" + digit + zeros + digit},
	} {
		hasBytes(t, roots(), c.r, hexed(t, c.b))
	}
}

// Rows of 128 and more have two bytes that say how many they are.
func TestLongRowsByTheirBytes(t *testing.T) {
	b, e := obj.PutMeta(full())
	if e != api.OK || !bytes.Equal(b[:6], []byte{1, 0xff, 0x1f, 64, 0x80, 0x80}) || len(b) > api.MaxRecord {
		t.Errorf("a full node: %d bytes, %d", len(b), e)
	}
	if at := bytes.Index(b, append([]byte{0x80, 0x01, 0x00, 0x80, 0x04, 0x80, 0x80, 0x02, 0x80, 0x02, 0x01}, writeKey(1)...)); at < 0 {
		t.Error("a full node has no row of 128 pieces")
	}
	l, e := obj.PutListing(api.Listing{Names: names(256), Nums: make([]int, 256)})
	if want := append([]byte{0, 0x80, 0x02, 2, 'a', 'a'}, make([]byte, 256)...); e != api.OK || !bytes.Equal(l[:6], want[:6]) || !bytes.HasSuffix(l, want[6:]) || len(l) != 3+256*3+256 {
		t.Errorf("a listing of 256 names: %s, %d", told(l), e)
	}
}

func writeKey(n int) []byte {
	var s script
	s.key(key(n))
	return s
}

func hold[T any](t *testing.T, of layer[T], right []T) {
	t.Helper()
	for _, x := range right {
		if !of.may(x) {
			t.Fatalf("this test takes %s for one that may not be", told(x))
		}
		hasBytes(t, of, x, of.write(x))
	}
}

func TestWhatMayBe(t *testing.T) {
	hold(t, metas(), rightMetas())
	hold(t, listings(), rightListings())
	hold(t, pages(), rightPages())
	hold(t, roots(), rightRoots())
}

func refuse[T any](t *testing.T, of layer[T], wrong, lost []T) {
	t.Helper()
	for _, x := range slices.Concat(wrong, lost) {
		if of.may(x) {
			t.Fatalf("this test takes %s for one that may be", told(x))
		}
		isRefused(t, of, x)
	}
	for _, x := range wrong {
		areRefused(t, of, of.write(x))
	}
}

func TestWhatMayNotBe(t *testing.T) {
	refuse(t, metas(), wrongMetas(), lostMetas())
	refuse(t, listings(), wrongListings(), nil)
	refuse(t, pages(), wrongPages(), lostPages())
	refuse(t, roots(), wrongRoots(), lostRoots())
}

// P8.1: Get

// shortOrLong asks that bytes with some cut off, or others behind, are nothing.
func shortOrLong[T any](t *testing.T, of layer[T], right []T) {
	t.Helper()
	for _, x := range right {
		b := of.write(x)
		for n := range b {
			if n < 300 || n > len(b)-300 {
				areRefused(t, of, b[:n])
			}
		}
		for _, behind := range [][]byte{{0}, {1}, {0x80}, {0xff}, make([]byte, 32), make([]byte, 300), b} {
			areRefused(t, of, slices.Concat(b, behind))
		}
	}
}

func TestBytesThatEndTooSoonOrTooLate(t *testing.T) {
	shortOrLong(t, metas(), rightMetas())
	shortOrLong(t, listings(), rightListings())
	shortOrLong(t, pages(), rightPages())
	shortOrLong(t, roots(), rightRoots())
}

// asRead asks that bytes are taken, or not, as this test does.
func asRead[T any](t *testing.T, of layer[T], b []byte) {
	t.Helper()
	x, ok := of.read(b)
	if !ok || !of.may(x) {
		areRefused(t, of, b)
		return
	}
	got, e := of.get(b)
	if !reflect.DeepEqual(of.plain(got), of.plain(x)) || e != api.OK {
		t.Errorf("Get(%s): %s, %d, not %s", told(b), told(got), e, told(x))
	}
	if again, e := of.put(got); !bytes.Equal(again, b) || e != api.OK {
		t.Errorf("Put(Get(%s)): %s, %d", told(b), told(again), e)
	}
}

// otherwise answers bytes of which one is another, is gone, or stands for a number that is written longer, or is greater.
func otherwise(b []byte, at int) [][]byte {
	var l [][]byte
	put := func(c ...byte) { l = append(l, slices.Concat(b[:at], c, b[at+1:])) }
	for bit := range 8 {
		put(b[at] ^ 1<<bit)
	}
	for _, c := range []byte{0, 1, 2, 3, 4, 0x7f, 0x80, 0xff, b[at] + 1, b[at] - 1} {
		put(c)
	}
	put()
	put(b[at], b[at])
	put(0, b[at])
	long := b[at] | 0x80
	put(long, 0)
	put(long, 0x80, 0)
	put(long, 1)
	put(long, 0x80, 0x80, 0x80, 0x10)                               // 2^32 more
	put(long, 0x80, 0x80, 0x80, 0x80, 0x80, 0x80, 0x80, 0x80, 1)    // 2^63 more
	put(long, 0x80, 0x80, 0x80, 0x80, 0x80, 0x80, 0x80, 0x80, 2)    // 2^64 more
	put(long, 0x80, 0x80, 0x80, 0x80, 0x80, 0x80, 0x80, 0x80, 0x80) // without an end
	put(0xff, 0xff, 0xff, 0xff, 0xff, 0xff, 0xff, 0xff, 0x7f)       // 2^63 - 1
	put(0xff, 0xff, 0xff, 0xff, 0xff, 0xff, 0xff, 0xff, 0xff, 1)    // 2^64 - 1
	return l
}

func turned[T any](t *testing.T, of layer[T], right []T) {
	t.Helper()
	for _, x := range right {
		b := of.write(x)
		if len(b) > 600 {
			continue
		}
		for at := range b {
			if at > 70 && at < len(b)-70 {
				continue
			}
			for _, other := range otherwise(b, at) {
				asRead(t, of, other)
			}
		}
	}
}

func TestBytesThatAreOthers(t *testing.T) {
	turned(t, metas(), rightMetas())
	turned(t, listings(), rightListings())
	turned(t, pages(), rightPages())
	turned(t, roots(), rightRoots())
}

// All short bytes of a few values: each is taken just as this test takes it.
func TestAllShortBytes(t *testing.T) {
	rows := [][]byte{nil}
	for i := 0; i < len(rows); i++ {
		if len(rows[i]) < 8 {
			for _, c := range []byte{0, 1, 2, 'a'} {
				rows = append(rows, append(slices.Clone(rows[i]), c))
			}
		}
		asRead(t, metas(), rows[i])
		asRead(t, listings(), rows[i])
		asRead(t, pages(), rows[i])
		asRead(t, roots(), rows[i])
	}
}

// A row that is said to be of any length takes no more room than its bytes.
func TestRowsThatAreSaidToBeLong(t *testing.T) {
	for _, n := range []int{257, 32768, 32769, 1 << 24, 1<<31 - 1, 1 << 31, 1 << 40, math.MaxInt} {
		var count script
		count.number(n)
		for _, behind := range [][]byte{nil, {0}, make([]byte, 64), bytes.Repeat([]byte{1}, 1000)} {
			for _, ahead := range []string{"01000000", "0100000000", "010000000000", "03000000", "0300000001780000"} {
				areRefused(t, metas(), slices.Concat(hexed(t, ahead), count, behind))
			}
			areRefused(t, listings(), slices.Concat([]byte{0}, count, behind))
			areRefused(t, listings(), slices.Concat([]byte{1, 1}, count, behind))
			areRefused(t, pages(), slices.Concat(count, behind))
			areRefused(t, roots(), slices.Concat([]byte{1}, count, behind))
		}
	}
}

// P8.2 and P8.3, with several changes at once, any of which may be wrong

// pick answers one of these.
func pick[T any](chance *rand.Rand, l ...T) T { return l[chance.Intn(len(l))] }

// changes answers objects that have gone through some of the changes, each once.
func changes[T any](chance *rand.Rand, of layer[T], right []T, all ...func(*T)) []T {
	return many(4000, func(int) T {
		x := of.plain(pick(chance, right...))
		for _, i := range chance.Perm(len(all))[:chance.Intn(3)+1] {
			all[i](&x)
		}
		return x
	})
}

func asSaid[T any](t *testing.T, of layer[T], l []T) {
	t.Helper()
	may := 0
	for _, x := range l {
		if of.may(x) {
			may++
			hasBytes(t, of, x, of.write(x))
		} else {
			isRefused(t, of, x)
			asRead(t, of, of.write(x))
		}
	}
	if may < len(l)/20 || may > len(l)*19/20 {
		t.Errorf("%d of %d objects may be: this test is worth little", may, len(l))
	}
}

// one changes an element of a row, if there is one.
func one[T any](chance *rand.Rand, l []T, change func(*T)) {
	if len(l) > 0 {
		change(&l[chance.Intn(len(l))])
	}
}

func TestChangedMetas(t *testing.T) {
	chance := rand.New(rand.NewSource(8))
	small := []int{-1, 0, 1, 2, 3, 5, 64, 65, 512, 513, 2048, 2049, 4095, 4096, 32768, 32769}
	asSaid(t, metas(), changes(chance, metas(), rightMetas(),
		func(m *api.Meta) { m.Kind = api.Kind(chance.Intn(5)) },
		func(m *api.Meta) { m.Mode = pick(chance, small...) },
		func(m *api.Meta) { m.Links = pick(chance, small...) },
		func(m *api.Meta) { m.Size = pick(chance, small...) },
		func(m *api.Meta) { m.Target = pick(chance, "", "", "x", "a\x00", "\xff", strings.Repeat("y", 1001)) },
		func(m *api.Meta) {
			m.Attrs = attrs(pick(chance, slices.Concat(rightNames(), wrongNames(), [][]string{names(9)})...)...)
		},
		func(m *api.Meta) {
			one(chance, m.Attrs, func(a *api.Attr) { a.Value = make([]byte, pick(chance, 0, 1, 256, 257)) })
		},
		func(m *api.Meta) { m.Kind, m.Target, m.Refs = api.Link, "x", nil },
		func(m *api.Meta) { *m = node(m.Refs...) },
		func(m *api.Meta) { *m = node(append(m.Refs, chunk(1, pick(chance, small...)))...) },
		func(m *api.Meta) {
			*m = node(append(m.Refs, below(pick(chance, small...), pick(chance, small...), pick(chance, small...)))...)
		},
		func(m *api.Meta) {
			one(chance, m.Refs, func(r *api.Ref) { r.Key = pick(chance, append(wrongKeys(), "", key(1), key(2))...) })
		},
		func(m *api.Meta) {
			one(chance, m.Refs, func(r *api.Ref) { r.Lower, r.Off = pick(chance, small...), pick(chance, small...) })
		},
		func(m *api.Meta) { m.Refs = append(m.Refs, m.Refs...) },
	))
}

func TestChangedListings(t *testing.T) {
	chance := rand.New(rand.NewSource(9))
	asSaid(t, listings(), changes(chance, listings(), rightListings(),
		func(l *api.Listing) { l.Opaque = !l.Opaque },
		func(l *api.Listing) {
			one(chance, l.Nums, func(n *int) { *n = pick(chance, -1, 0, 0, 1, 2, 1024, 1025) })
		},
		func(l *api.Listing) {
			one(chance, l.Names, func(s *string) { *s = pick(chance, "", ".", "a", "ab", "b", "zz", "\U0010ffff", "\xff") })
		},
		func(l *api.Listing) { l.Names, l.Nums = append(l.Names, "zzz"), append(l.Nums, 1) },
		func(l *api.Listing) { l.Names, l.Nums = names(257), numbers(1, 257) },
		func(l *api.Listing) { l.Names = append(l.Names, "zzz") },
		func(l *api.Listing) { l.Nums = l.Nums[:len(l.Nums)/2] },
	))
}

func TestChangedPages(t *testing.T) {
	chance := rand.New(rand.NewSource(10))
	asSaid(t, pages(), changes(chance, pages(), rightPages(),
		func(p *api.Page) {
			one(chance, p.Nums, func(n *int) { *n = pick(chance, -1, 0, 1, 2, 3, 500, 1023, 1024, 1025) })
		},
		func(p *api.Page) {
			one(chance, p.Keys, func(k *api.Key) { *k = pick(chance, append(wrongKeys(), "", key(1), key(2), key(3), key(4))...) })
		},
		func(p *api.Page) {
			p.Nums, p.Keys = append(p.Nums, pick(chance, 0, 1, 1023, 1024)), append(p.Keys, key(1))
		},
		func(p *api.Page) { slices.Reverse(p.Nums) },
		func(p *api.Page) { slices.Reverse(p.Keys) },
		func(p *api.Page) { p.Keys = append(p.Keys, key(1)) },
	))
}

func TestChangedRoots(t *testing.T) {
	chance := rand.New(rand.NewSource(11))
	asSaid(t, roots(), changes(chance, roots(), rightRoots(),
		func(r *api.Root) { r.Next = pick(chance, -1, 0, 1, 2, 1024, 1025, 1026) },
		func(r *api.Root) {
			one(chance, r.Pages, func(k *api.Key) { *k = pick(chance, append(wrongKeys(), "", key(1), key(2), key(3), key(4))...) })
		},
		func(r *api.Root) { r.Pages = append(r.Pages, r.Pages...) },
		func(r *api.Root) { slices.Reverse(r.Pages) },
	))
}

// P8.4

func getOfPut[T any](t *testing.T, of layer[T], right []T) {
	t.Helper()
	for _, x := range right {
		b, e := of.put(x)
		if e != api.OK {
			t.Fatalf("Put(%s): %d", told(x), e)
		}
		got, e := of.get(b)
		if !reflect.DeepEqual(of.plain(got), of.plain(x)) || e != api.OK {
			t.Errorf("Get(Put(%s)): %s, %d", told(x), told(got), e)
		}
		if again, e := of.put(got); !bytes.Equal(again, b) || e != api.OK {
			t.Errorf("Put(Get(%s)): %s, %d", told(b), told(again), e)
		}
	}
}

func TestGetOfPut(t *testing.T) {
	getOfPut(t, metas(), rightMetas())
	getOfPut(t, listings(), rightListings())
	getOfPut(t, pages(), rightPages())
	getOfPut(t, roots(), rightRoots())
}

// The rules that hold everywhere.

// nil and empty lists are the same.
func TestEmptyListsAreAsNone(t *testing.T) {
	empty := api.Meta{Kind: api.File, Attrs: []api.Attr{}, Refs: []api.Ref{}}
	hasBytes(t, metas(), empty, hexed(t, "01 00 00 00 00 00 00"))
	hasBytes(t, metas(), api.Meta{Kind: api.File, Attrs: []api.Attr{{Name: "a", Value: []byte{}}}}, hexed(t, "01 00 00 00 00 01 0161 00 00"))
	hasBytes(t, listings(), api.Listing{Names: []string{}, Nums: []int{}}, []byte{0, 0})
	hasBytes(t, pages(), api.Page{Nums: []int{}, Keys: []api.Key{}}, []byte{0})
	hasBytes(t, roots(), api.Root{Next: 1, Pages: []api.Key{}}, []byte{1, 0})
	for _, b := range [][]byte{nil, {}} {
		areRefused(t, metas(), b)
		areRefused(t, listings(), b)
		areRefused(t, pages(), b)
		areRefused(t, roots(), b)
	}
}

// What is handed in stays, and what stands behind its end is nobody's.
func stay[T any](t *testing.T, of layer[T], some ...T) {
	t.Helper()
	for _, x := range some {
		was := of.plain(x)
		of.put(x)
		if !reflect.DeepEqual(of.plain(x), was) {
			t.Errorf("Put changes %s to %s", told(was), told(x))
		}
		right := of.write(x)
		room := slices.Concat(right, right)
		got, e := of.get(room[:len(right)])
		if ok := of.may(x); ok && (e != api.OK || !reflect.DeepEqual(of.plain(got), was)) {
			t.Errorf("Get of bytes with room behind them: %s, %d", told(got), e)
		}
		if len(right) > 0 {
			areRefused(t, of, room[:len(right)-1])
		}
		if !bytes.Equal(room, slices.Concat(right, right)) {
			t.Errorf("Get changes %s to %s", told(right), told(room))
		}
	}
}

func TestArgumentsStay(t *testing.T) {
	stay(t, metas(), rightMetas()...)
	stay(t, metas(), wrongMetas()...)
	stay(t, listings(), rightListings()...)
	stay(t, listings(), api.Listing{Names: []string{"b", "a", "b"}, Nums: []int{3, 2, 1}})
	stay(t, pages(), rightPages()...)
	stay(t, pages(), api.Page{Nums: []int{3, 2, 2}, Keys: keys(3)})
	stay(t, roots(), rightRoots()...)
}

// The room behind the end of a row is nobody's.
func TestRoomBehindRowsIsNobodys(t *testing.T) {
	m := full()
	m.Attrs, m.Refs = m.Attrs[:1], m.Refs[:2]
	m.Attrs[0].Value, m.Size = m.Attrs[0].Value[:3], m.Refs[0].N+m.Refs[1].N
	hasBytes(t, metas(), m, writeMeta(m))
	hasBytes(t, listings(), api.Listing{Names: names(300)[:2], Nums: make([]int, 300)[:2]}, hexed(t, "00 02 026161 026162 00 00"))
	hasBytes(t, pages(), api.Page{Nums: numbers(1, 64)[:1], Keys: keys(64)[:1]}, append([]byte{1, 1}, writeKey(0)...))
	hasBytes(t, roots(), api.Root{Next: 1, Pages: keys(80)[:1]}, append([]byte{1, 1}, writeKey(0)...))
}

// Answers are the caller's own: what is done to one changes neither what was handed in nor another answer.
func own[T any](t *testing.T, of layer[T], x T, spoil func(T)) {
	t.Helper()
	x = of.plain(x)
	want := of.write(x)
	first, _ := of.put(x)
	second, _ := of.put(x)
	for i := range first {
		first[i] ^= 0xff
	}
	if !bytes.Equal(second, want) {
		t.Errorf("one Put's bytes change with another one's: %s, not %s", told(second), told(want))
	}
	hasBytes(t, of, x, want)
	in := slices.Clone(want)
	one, _ := of.get(in)
	other, _ := of.get(in)
	spoil(one)
	if !bytes.Equal(in, want) {
		t.Errorf("bytes change with what was read of them: %s, not %s", told(in), told(want))
	}
	for i := range in {
		in[i] ^= 0xff
	}
	if !reflect.DeepEqual(of.plain(other), of.plain(x)) {
		t.Errorf("what was read changes: %s, not %s", told(other), told(x))
	}
}

func TestAnswersAreNewMemory(t *testing.T) {
	m := full()
	own(t, metas(), m, func(m api.Meta) {
		for i := range m.Attrs {
			m.Attrs[i].Value[0] ^= 0xff
			m.Attrs[i].Name = "x"
		}
		for i := range m.Refs {
			m.Refs[i] = api.Ref{}
		}
	})
	own(t, listings(), api.Listing{Names: names(256), Nums: numbers(1, 256)}, func(l api.Listing) {
		clear(l.Names)
		clear(l.Nums)
	})
	own(t, pages(), api.Page{Nums: numbers(1, 32), Keys: keys(32)}, func(p api.Page) {
		clear(p.Nums)
		clear(p.Keys)
	})
	own(t, roots(), api.Root{Next: 7, Pages: keys(64)}, func(r api.Root) { clear(r.Pages) })
}

// No two lists of one answer share memory: what is appended to one does not reach another.
func TestValuesAreKept(t *testing.T) {
	m := api.Meta{Kind: api.File, Attrs: many(8, func(i int) api.Attr {
		return api.Attr{Name: string(rune('a' + i)), Value: []byte{byte(i), 7}}
	})}
	got, e := obj.GetMeta(writeMeta(m))
	if e != api.OK {
		t.Fatal(e)
	}
	for _, a := range got.Attrs {
		_ = append(a.Value, 0xff, 0xff, 0xff, 0xff)
	}
	if !reflect.DeepEqual(plainMeta(got), plainMeta(m)) {
		t.Errorf("what is appended to a value reaches another: %s", told(got))
	}
}

// Answers hang on nothing but the arguments, whoever else calls, and whatever was refused ahead.
func TestCallsKnowNothingOfOneAnother(t *testing.T) {
	m, l, p, r := full(), api.Listing{Names: names(9), Nums: make([]int, 9)}, api.Page{Nums: numbers(1, 9), Keys: keys(9)}, api.Root{Next: 9, Pages: keys(9)}
	var all sync.WaitGroup
	for range 8 {
		all.Go(func() {
			for range 20 {
				areRefused(t, metas(), writeMeta(m)[1:])
				hasBytes(t, metas(), m, writeMeta(m))
				isRefused(t, listings(), api.Listing{Opaque: true, Names: l.Names, Nums: l.Nums})
				hasBytes(t, listings(), l, writeListing(l))
				isRefused(t, pages(), api.Page{Nums: p.Nums})
				hasBytes(t, pages(), p, writePage(p))
				areRefused(t, roots(), writeRoot(r)[1:])
				hasBytes(t, roots(), r, writeRoot(r))
			}
		})
	}
	all.Wait()
}

// Any bytes are answered.
func TestAnyBytes(t *testing.T) {
	chance := rand.New(rand.NewSource(12))
	for range 20000 {
		b := make([]byte, chance.Intn(80))
		for i := range b {
			b[i] = byte(chance.Intn(pick(chance, 3, 130, 256)))
		}
		asRead(t, metas(), b)
		asRead(t, listings(), b)
		asRead(t, pages(), b)
		asRead(t, roots(), b)
	}
	for _, c := range []byte{0, 1, 2, 0x7f, 0x80, 0xff} {
		b := bytes.Repeat([]byte{c}, 1<<20)
		areRefused(t, metas(), b)
		areRefused(t, listings(), b)
		areRefused(t, pages(), b)
		areRefused(t, roots(), b)
	}
}

// Long rows are refused as short ones are.
func TestLongRows(t *testing.T) {
	n := 1 << 20
	isRefused(t, metas(), api.Meta{Kind: api.File, Attrs: make([]api.Attr, n)})
	isRefused(t, metas(), api.Meta{Kind: api.File, Refs: make([]api.Ref, n)})
	isRefused(t, metas(), link(strings.Repeat("x", n)))
	isRefused(t, listings(), api.Listing{Names: make([]string, n), Nums: make([]int, n)})
	isRefused(t, pages(), api.Page{Nums: make([]int, n), Keys: make([]api.Key, n)})
	isRefused(t, roots(), api.Root{Next: 1, Pages: make([]api.Key, n)})
}
