package lower_test

import (
	"bytes"
	"encoding/hex"
	"fmt"
	"math"
	"math/rand"
	"reflect"
	"slices"
	"strings"
	"sync"
	"testing"

	"palimpsest/api"
	"palimpsest/lower"
)

// many answers n things, made of their numbers from 0 on.
func many[T any](n int, make func(int) T) []T {
	var l []T
	for i := range n {
		l = append(l, make(i))
	}
	return l
}

// names answers n names, rising.
func names(n int) []string {
	return many(n, func(i int) string { return string([]byte{'a' + byte(i/26), 'a' + byte(i%26)}) })
}

// numbers answers n numbers from first on.
func numbers(first, n int) []int { return many(n, func(i int) int { return first + i }) }

func attrs(names ...string) []api.Attr {
	return many(len(names), func(i int) api.Attr { return api.Attr{Name: names[i]} })
}

func file(data string) api.Inode {
	return api.Inode{Kind: api.File, Mode: 420, Data: []byte(data)}
}

func link(target string) api.Inode {
	return api.Inode{Kind: api.Link, Mode: 511, Target: target}
}

// row answers a directory with those names, and numbers from first on.
func row(first int, names ...string) api.Inode {
	return api.Inode{Kind: api.Dir, Mode: 493, Names: names, Nums: numbers(first, len(names))}
}

// dir answers a directory whose entries are names and numbers by turns.
func dir(entries ...any) api.Inode {
	x := row(0)
	for i := 0; i < len(entries); i += 2 {
		x.Names = append(x.Names, entries[i].(string))
		x.Nums = append(x.Nums, entries[i+1].(int))
	}
	return x
}

// fs answers a file system of inodes from 1 on, with right Links.
func fs(l ...api.Inode) api.Fs {
	f := plain(api.Fs{Inodes: l, Next: len(l) + 1})
	for i := range f.Inodes {
		f.Inodes[i].Num = i + 1
	}
	return linked(f)
}

// with answers a file system that was changed.
func with(f api.Fs, change func(*api.Fs)) api.Fs {
	f = plain(f)
	change(&f)
	return f
}

// inode answers a file system of which one inode was changed.
func inode(f api.Fs, num int, change func(*api.Inode)) api.Fs {
	return with(f, func(f *api.Fs) { change(&f.Inodes[num-1]) })
}

// small answers a file system with some of all.
func small() api.Fs {
	f := fs(dir("etc", 2, "hard", 3, "m", 4), dir("deep", 5, "motd", 3, "top", 4), file("hello"), link("etc/motd"), dir("one", 6), dir())
	f.Inodes[2].Attrs = []api.Attr{{Name: "a", Value: []byte{0, 255}}, {Name: "bc"}}
	f.Inodes[3].Attrs = attrs("x")
	f.Inodes[5].Attrs = attrs("user.é")
	return f
}

// chain answers n directories, each but the first one within the one ahead.
func chain(n int) api.Fs {
	l := many(n, func(i int) api.Inode { return dir("d", i+2) })
	l[n-1] = dir()
	return fs(l...)
}

// upward answers n directories, each but the last one within the one behind; but the last one stands in the first.
func upward(n int) api.Fs {
	l := many(n, func(i int) api.Inode { return dir("d", i) })
	l[0], l[1] = dir("d", n), dir()
	return fs(l...)
}

// wide answers a file system of n inodes: directories with 128 names each, till all of them stand somewhere.
func wide(n int) api.Fs {
	l := many(n, func(i int) api.Inode { return file("") })
	for i, next := 0, 2; next <= n; i++ {
		count := min(128, n+1-next)
		l[i] = row(next, names(count)...)
		next += count
	}
	return fs(l...)
}

// linkedOften answers a file that stands in so many places, in two directories.
func linkedOften(x api.Inode, n int) api.Fs {
	one := func(int) int { return 3 }
	a, b := row(0, names(n/2)...), row(0, names(n-n/2)...)
	a.Nums, b.Nums = append(many(n/2, one), 2), many(n-n/2, one)
	a.Names = append(a.Names, "zz")
	return fs(a, b, x)
}

// one answers a file system of an inode alone, below the first one.
func one(x api.Inode) api.Fs { return fs(dir("x", 2), x) }

// rightNames answers rows of names that may be, with a few kinds of rising.
func rightNames() [][]string {
	return [][]string{
		{"a"},
		{"a", "b"},
		{"B", "a"},
		{"10", "9"},
		{"a", "aa", "ab", "b"},
		{"a", "a\x01", "a "},
		{" ", "\"", "...", ".a"},
		{"..a", "a.", "a.."},
		{"\x01", "\\", "\x7f"},
		{"z", "é", "\ufffd", "\uffff", "\U00010000", "\U0010ffff"},
		{strings.Repeat("x", 99), strings.Repeat("x", 100)},
		{strings.Repeat("é", 50)},
		names(8),
	}
}

// wrongNames answers rows of names that may not be.
func wrongNames() [][]string {
	return [][]string{
		{""}, {"."}, {".."}, {"/"}, {"a/b"}, {"a/"}, {"\x00"}, {"a\x00"},
		{"\xff"}, {"a\xc3"}, {"\xed\xa0\x80"}, {"\xc0\xaf"}, {"\xf4\x90\x80\x80"},
		{strings.Repeat("x", 101)}, {strings.Repeat("é", 51)}, {strings.Repeat("x", 1000)}, {strings.Repeat("x", 40000)},
		{"a", "a"}, {"b", "a"}, {"a", "b", "b"}, {"a", "c", "b"}, {"b", "c", "a"}, {"a", "b", "a"},
		{"a", "B"}, {"9", "10"}, {"aa", "a"}, {"é", "z"}, {"\U00010000", "\uffff"},
		{"", "a"}, {"a", ""}, {"a", "b/", "c"}, {".", "a"}, {"a", "b", "\xff"},
	}
}

// filled answers a directory with a file for each of these names.
func filled(l ...string) api.Fs {
	return fs(append([]api.Inode{row(2, l...)}, many(len(l), func(i int) api.Inode { return file(l[i]) })...)...)
}

// rightOnes answers file systems that may be: ordinary ones, and those at each edge.
func rightOnes() []api.Fs {
	l := []api.Fs{
		fs(dir()),
		fs(api.Inode{Kind: api.Dir}),
		small(),
		one(file("")),
		one(link("t")),
		one(dir()),
		fs(dir("a", 2, "b", 2, "c", 2), file("thrice")),
		fs(dir("a", 2, "b", 2), link("twice")),
		fs(dir("a", 3, "b", 2), dir("c", 4), dir("c", 4), file("in two directories")),
		fs(dir("a", 4), dir("a", 3), file("numbers fall"), dir("a", 2)),
		chain(2), chain(3), chain(511), chain(512),
		upward(2), upward(3), upward(512),
		wide(127), wide(128), wide(129), wide(130), wide(511), wide(512),
		one(row(0)),
	}
	for _, n := range []int{1, 2, 3, 63, 64} {
		l = append(l, linkedOften(file("often"), n), linkedOften(link("often"), n))
	}
	for _, n := range []int{0, 1, 127, 128, 255, 511, 512, 16383, 16384, 32767, 32768} {
		l = append(l, one(file(strings.Repeat("\xff", n))), one(file(strings.Repeat("\x00", n))))
	}
	for _, mode := range []int{0, 1, 127, 128, 4094, 4095} {
		l = append(l, inode(fs(dir()), 1, func(x *api.Inode) { x.Mode = mode }))
		for num := 1; num <= 6; num++ {
			l = append(l, inode(small(), num, func(x *api.Inode) { x.Mode = mode }))
		}
	}
	for _, target := range []string{"x", "/", "../a//b/./", "\xff\x01\n", "é\U00010000", strings.Repeat("x", 999), strings.Repeat("x", 1000)} {
		l = append(l, one(link(target)))
	}
	for _, names := range rightNames() {
		l = append(l, filled(names...))
		for _, num := range []int{1, 3, 4} {
			l = append(l, inode(small(), num, func(x *api.Inode) { x.Attrs = attrs(names[:min(8, len(names))]...) }))
		}
	}
	for _, n := range []int{0, 1, 127, 128, 255, 256} {
		value := bytes.Repeat([]byte{0xff}, n)
		l = append(l, inode(small(), 3, func(x *api.Inode) { x.Attrs = []api.Attr{{Name: "a", Value: value}, {Name: "b", Value: value}} }))
	}
	for n := range 9 {
		l = append(l, inode(small(), 2, func(x *api.Inode) { x.Attrs = attrs(names(n)...) }))
	}
	return l
}

// wrongInodes answers file systems that may not be, since of one of small's inodes one field may not be, which their bytes would have too.
func wrongInodes() []api.Fs {
	var l []api.Fs
	each := func(nums []int, change func(*api.Inode)) {
		for _, num := range nums {
			l = append(l, with(small(), func(f *api.Fs) {
				change(&f.Inodes[num-1])
				*f = linked(*f)
			}))
		}
	}
	every := []int{1, 2, 3, 4, 5, 6}
	for _, mode := range []int{-1, 4096, 4097, 32768, 32769, 1<<16 + 420, 1 << 32, math.MaxInt, math.MinInt} {
		each(every, func(x *api.Inode) { x.Mode = mode })
	}
	for _, kind := range []api.Kind{0, 4, 5, -1, 128, 1<<16 + 1, 1<<32 + 1, 1<<32 + 2, math.MaxInt, math.MinInt} {
		each(every, func(x *api.Inode) { x.Kind = kind })
	}
	for _, target := range []string{"", "\x00", "a\x00b", "abc\x00", strings.Repeat("x", 1001), strings.Repeat("x", 3000), strings.Repeat("x", 33000)} {
		each([]int{4}, func(x *api.Inode) { x.Target = target })
	}
	for _, target := range []string{"x", "\x00", "etc/motd", strings.Repeat("x", 1001)} {
		each([]int{1, 2, 3, 5, 6}, func(x *api.Inode) { x.Target = target })
	}
	for _, names := range append(wrongNames(), names(9), names(200)) {
		each(every, func(x *api.Inode) { x.Attrs = attrs(names...) })
	}
	for _, n := range []int{257, 258, 1000, 1001, 40000} {
		each(every, func(x *api.Inode) { x.Attrs = []api.Attr{{Name: "a"}, {Name: "b", Value: make([]byte, n)}} })
		each(every, func(x *api.Inode) { x.Attrs = []api.Attr{{Name: "a", Value: make([]byte, n)}} })
	}
	for _, n := range []int{32769, 32770, 65536, 1 << 20} {
		each([]int{3}, func(x *api.Inode) { x.Data = make([]byte, n) })
	}
	for _, names := range wrongNames() {
		l = append(l, filled(names...))
	}
	return l
}

// wrongTrees answers file systems that may not be, since their inodes do not stand where they may.
func wrongTrees() []api.Fs {
	l := []api.Fs{
		fs(dir("a", 1)),
		fs(dir("a", 1), file("nowhere")),
		fs(dir("a", 2), dir("a", 1)),
		fs(dir("a", 2), dir("a", 2)),
		fs(dir("a", 2), dir("a", 3), dir("a", 2)),
		fs(dir("a", 2), dir("a", 3), dir("a", 1)),
		fs(dir(), dir("a", 2)),
		fs(dir(), dir("a", 3), dir("a", 2)),
		fs(dir(), dir("a", 3), file("in what is nowhere")),
		fs(dir("a", 2), file(""), dir("a", 3)),
		fs(dir("a", 2), file(""), dir("a", 4), dir("a", 3)),
		fs(dir("a", 2), file(""), dir("a", 2)),
		fs(dir("a", 2), file(""), dir("a", 2, "b", 3)),
		fs(dir("a", 2, "b", 2), dir()),
		fs(dir("a", 2, "b", 3), dir("a", 3), dir()),
		fs(dir("a", 2, "b", 3), dir("a", 4), dir("a", 4), dir()),
		fs(dir(), dir()),
		fs(dir(), file("")),
		fs(dir(), link("x")),
		fs(dir("a", 3), file(""), file("")),
		fs(file("")),
		fs(link("x")),
		fs(file(""), dir("a", 1)),
		fs(file(""), dir()),
		fs(api.Inode{Kind: api.Dir, Names: []string{"a"}, Nums: []int{2}}),
		wide(513), wide(514), chain(513), wide(1024),
		linkedOften(file(""), 65), linkedOften(link("x"), 65), linkedOften(file(""), 66), linkedOften(file(""), 128),
		linkedOften(dir(), 2), linkedOften(dir(), 64),
	}
	for _, num := range []int{0, -1, 3, 4, 512, 513, 1024, 1025, 1<<32 + 2, math.MaxInt, math.MinInt} {
		l = append(l, fs(dir("a", num), file("")), fs(dir("a", 2, "b", num), file("")), fs(dir("a", num, "b", 2), dir()), fs(dir("a", 2), dir("a", num)))
	}
	many := fs(append([]api.Inode{row(2, names(129)...)}, many(129, func(int) api.Inode { return file("") })...)...)
	return append(l, many, inode(small(), 6, func(x *api.Inode) { *x = many.Inodes[0] }))
}

// lostOnes answers file systems that may not be, but would have the bytes of another one, or none.
func lostOnes() []api.Fs {
	f := small()
	l := []api.Fs{{}, {Next: 1}, {Next: 2}, {Inodes: fs(dir()).Inodes}}
	for _, next := range []int{0, 1, 6, 8, 513, -7, 1<<32 + 7, math.MaxInt, math.MinInt} {
		l = append(l, with(f, func(f *api.Fs) { f.Next = next }))
	}
	for num := 1; num <= 6; num++ {
		for _, to := range []int{0, -num, num - 1, num + 1, 7, 1<<32 + num, math.MaxInt, math.MinInt} {
			l = append(l, inode(f, num, func(x *api.Inode) { x.Num = to }))
		}
		for _, links := range []int{0, -1, 3, 4, 64, 65, 1<<32 + 1, math.MaxInt, math.MinInt} {
			l = append(l, inode(f, num, func(x *api.Inode) { x.Links = links }))
		}
		if links := f.Inodes[num-1].Links; links == 1 {
			l = append(l, inode(f, num, func(x *api.Inode) { x.Links = 2 }))
		} else {
			l = append(l, inode(f, num, func(x *api.Inode) { x.Links = 1 }))
		}
	}
	for _, num := range []int{1, 2, 4, 5, 6} {
		l = append(l, inode(f, num, func(x *api.Inode) { x.Data = []byte{0} }), inode(f, num, func(x *api.Inode) { x.Data = make([]byte, 40000) }))
	}
	for _, num := range []int{3, 4} {
		l = append(l, inode(f, num, func(x *api.Inode) { x.Names = []string{"a"} }), inode(f, num, func(x *api.Inode) { x.Nums = []int{3} }))
		l = append(l, linked(inode(f, num, func(x *api.Inode) { x.Names, x.Nums = []string{"a"}, []int{3} })))
		l = append(l, linked(inode(f, num, func(x *api.Inode) { x.Names, x.Nums = []string{"a"}, []int{num} })))
	}
	for _, num := range []int{1, 2, 5, 6} {
		l = append(l, inode(f, num, func(x *api.Inode) { x.Names = append(x.Names, "z") }))
		l = append(l, linked(inode(f, num, func(x *api.Inode) { x.Nums = append(x.Nums, 3) })))
	}
	l = append(l, with(f, func(f *api.Fs) { f.Inodes[1], f.Inodes[2] = f.Inodes[2], f.Inodes[1] }))
	l = append(l, with(f, func(f *api.Fs) { slices.Reverse(f.Inodes) }))
	return l
}

// told answers what a file system or bytes are, as far as a line shows it.
func told(x any) string {
	s := fmt.Sprintf("%+v", x)
	if b, ok := x.([]byte); ok {
		s = hex.EncodeToString(b)
	}
	if len(s) > 600 {
		s = s[:600] + " .."
	}
	return strings.ToValidUTF8(s, "?")
}

// hasBytes asks that a file system may be and has just these bytes, and they, with noughts behind them or not, are just that one.
func hasBytes(t *testing.T, f api.Fs, want []byte) {
	t.Helper()
	if !lower.Check(f) {
		t.Errorf("Check(%s): false", told(f))
	}
	if b, e := lower.Put(f); !bytes.Equal(b, want) || e != api.OK {
		t.Errorf("Put(%s): %s, %d, not %s", told(f), told(b), e, told(want))
	}
	for _, noughts := range []int{0, 1, 255} {
		b := slices.Concat(want, make([]byte, noughts))
		if got, e := lower.Get(b); !reflect.DeepEqual(plain(got), plain(f)) || e != api.OK {
			t.Errorf("Get(%s), %d noughts behind: %s, %d, not %s", told(want), noughts, told(got), e, told(f))
		}
	}
}

// isRefused asks that a file system may not be.
func isRefused(t *testing.T, f api.Fs) {
	t.Helper()
	if lower.Check(f) {
		t.Errorf("Check(%s): true", told(f))
	}
	if b, e := lower.Put(f); len(b) != 0 || e != api.ErrImage {
		t.Errorf("Put(%s): %s, %d", told(f), told(b), e)
	}
}

// areRefused asks that bytes are no image, and that nothing is answered for them.
func areRefused(t *testing.T, b []byte) {
	t.Helper()
	if got, e := lower.Get(b); !reflect.DeepEqual(plain(got), api.Fs{}) || e != api.ErrImage {
		t.Errorf("Get(%s): %s, %d", told(b), told(got), e)
	}
}

// asRead asks that bytes are taken, or not, as this test does.
func asRead(t *testing.T, b []byte) bool {
	t.Helper()
	f, ok := read(b)
	if !ok {
		areRefused(t, b)
		return false
	}
	got, e := lower.Get(b)
	if !reflect.DeepEqual(plain(got), plain(f)) || e != api.OK {
		t.Errorf("Get(%s): %s, %d, not %s", told(b), told(got), e, told(f))
	}
	again, e := lower.Put(got)
	if e != api.OK || !bytes.HasPrefix(b, again) || strings.Trim(string(b[len(again):]), "\x00") != "" {
		t.Errorf("Put(Get(%s)): %s, %d", told(b), told(again), e)
	}
	return true
}

// asSaid asks that a file system may be, or not, as this test says.
func asSaid(t *testing.T, f api.Fs) bool {
	t.Helper()
	b := write(f)
	if !may(f) {
		isRefused(t, f)
		asRead(t, b)
		return false
	}
	hasBytes(t, f, b)
	return true
}

// P16.1 and P16.2: file systems by their bytes

func hexed(t *testing.T, s string) []byte {
	t.Helper()
	b, err := hex.DecodeString(strings.Join(strings.Fields(s), ""))
	if err != nil {
		t.Fatal(err)
	}
	return b
}

func TestByTheirBytes(t *testing.T) {
	for _, c := range []struct {
		f api.Fs
		b string
	}{
		{
			api.Fs{Inodes: []api.Inode{{Num: 1, Kind: api.Dir, Links: 1}}, Next: 2},
			"50 4c 4c 57 01 02 00 00 00 00",
		},
		{
			api.Fs{Inodes: []api.Inode{
				{Num: 1, Kind: api.Dir, Mode: 493, Links: 1, Names: []string{"etc", "m"}, Nums: []int{2, 4}},
				{Num: 2, Kind: api.Dir, Mode: 493, Links: 1, Names: []string{"motd"}, Nums: []int{3}},
				{Num: 3, Kind: api.File, Mode: 420, Links: 1, Data: []byte("hello")},
				{Num: 4, Kind: api.Link, Mode: 511, Links: 1, Target: "etc/motd"},
			}, Next: 5},
			"50 4c 4c 57 04" +
				"02 ed03 00 00 02 03 657463 01 6d 02 04" +
				"02 ed03 00 00 01 04 6d6f7464 03" +
				"01 a403 00 00 05 68656c6c6f" +
				"03 ff03 08 6574632f6d6f7464 00",
		},
		{
			api.Fs{Inodes: []api.Inode{
				{Num: 1, Kind: api.Dir, Mode: 4095, Links: 1, Names: []string{"a", "é", "\U00010000"}, Nums: []int{3, 2, 3}, Attrs: []api.Attr{{Name: "k", Value: []byte("v")}}},
				{Num: 2, Kind: api.Dir, Links: 1, Names: []string{"b"}, Nums: []int{3}},
				{Num: 3, Kind: api.File, Mode: 1, Links: 3, Attrs: []api.Attr{{Name: "a", Value: []byte{0, 255}}, {Name: "bc"}}},
			}, Next: 4},
			"50 4c 4c 57 03" +
				"02 ff1f 00 01 01 6b 01 76 03 01 61 02 c3a9 04 f0908080 03 02 03" +
				"02 00 00 00 01 01 62 03" +
				"01 01 00 02 01 61 02 00ff 02 6263 00 00",
		},
	} {
		hasBytes(t, c.f, hexed(t, c.b))
	}
}

// What there are 128 and more of has two bytes or three that say how many there are.
func TestLongOnesByTheirBytes(t *testing.T) {
	f := wide(512)
	b, e := lower.Put(f)
	want := slices.Concat(hexed(t, "50 4c 4c 57 80 04 02 ed 03 00 00 80 01 02 61 61 02 61 62"))
	if e != api.OK || !bytes.HasPrefix(b, want) {
		t.Errorf("512 inodes: %s, %d", told(b), e)
	}
	nums := append([]byte{2, 'e', 'x'}, hexed(t, "02 03 04 05")...)
	if at := bytes.Index(b, nums); at < 0 || !bytes.HasPrefix(b[at+3+126:], hexed(t, "80 01 81 01 02 ed 03 00 00 80 01")) {
		t.Errorf("128 names: %s", told(b))
	}
	b, e = lower.Put(one(file(strings.Repeat("x", 32768))))
	if e != api.OK || !bytes.HasSuffix(b, append(hexed(t, "01 a4 03 00 00 80 80 02"), strings.Repeat("x", 32768)...)) {
		t.Errorf("32768 bytes: %s, %d", told(b), e)
	}
	b, e = lower.Put(one(link(strings.Repeat("x", 1000))))
	if e != api.OK || !bytes.HasSuffix(b, append(append(hexed(t, "03 ff 03 e8 07"), strings.Repeat("x", 1000)...), 0)) {
		t.Errorf("a target of 1000 bytes: %s, %d", told(b), e)
	}
}

func TestWhatMayBe(t *testing.T) {
	for _, f := range rightOnes() {
		if !may(f) {
			t.Fatalf("this test takes %s for one that may not be", told(f))
		}
		hasBytes(t, f, write(f))
	}
}

func TestWhatMayNotBe(t *testing.T) {
	for _, f := range slices.Concat(wrongInodes(), wrongTrees()) {
		if may(f) {
			t.Fatalf("this test takes %s for one that may be", told(f))
		}
		isRefused(t, f)
		areRefused(t, write(f))
	}
	for _, f := range lostOnes() {
		if may(f) {
			t.Fatalf("this test takes %s for one that may be", told(f))
		}
		isRefused(t, f)
		asRead(t, write(f))
	}
}

// Each kind must be one of the three, and the first inode's that of a directory.
func TestKinds(t *testing.T) {
	for kind := -2; kind <= 6; kind++ {
		for _, x := range []api.Inode{dir(), file(""), file("a"), link("a"), dir("a", 2), dir("a", 3)} {
			x.Kind = api.Kind(kind)
			asSaid(t, fs(x))
			asSaid(t, fs(x, file("")))
			asSaid(t, one(x))
			asSaid(t, fs(dir("a", 2), x, file("b")))
		}
	}
}

// Links must be as many as there are places, up to 64.
func TestLinks(t *testing.T) {
	for places := range 70 {
		for _, x := range []api.Inode{file("a"), link("a"), dir()} {
			f := linkedOften(x, places)
			asSaid(t, f)
			for links := -1; links <= 70; links++ {
				f.Inodes[2].Links = links
				if want := links == places && links >= 1 && links <= 64 && (x.Kind != api.Dir || links == 1); lower.Check(f) != want {
					t.Errorf("kind %d in %d places with Links %d: Check answers %t", x.Kind, places, links, !want)
				}
			}
		}
	}
}

// P16.2: Get

// around tells whether a place in bytes is near the beginning or the end.
func around(at, size int) bool { return at < 400 || at > size-400 }

func TestBytesThatEndTooSoon(t *testing.T) {
	for _, f := range rightOnes() {
		b := write(f)
		for n := range b {
			if around(n, len(b)) {
				areRefused(t, b[:n])
			}
		}
	}
}

// Cut off noughts may stand behind again; cut off others may not.
func TestBytesThatEndTooSoonWithNoughtsBehind(t *testing.T) {
	for _, f := range []api.Fs{fs(dir()), small(), one(file("a\x00\x00")), one(link("x")), fs(api.Inode{Kind: api.Dir})} {
		b := write(f)
		for n := range b {
			asRead(t, slices.Concat(b[:n], make([]byte, 300)))
		}
	}
}

func TestWhatStandsBehind(t *testing.T) {
	for _, f := range []api.Fs{fs(dir()), small(), wide(512)} {
		b := write(f)
		for _, n := range []int{0, 1, 2, 255, 256, 4096, 1 << 20} {
			room := slices.Concat(b, make([]byte, n))
			if got, e := lower.Get(room); !reflect.DeepEqual(plain(got), plain(f)) || e != api.OK {
				t.Errorf("%d noughts behind: %s, %d", n, told(got), e)
			}
			for _, at := range []int{0, 1, n / 2, n - 2, n - 1} {
				for _, c := range []byte{1, 0x80, 0xff, 'P'} {
					if at >= 0 && at < n {
						room[len(b)+at] = c
						areRefused(t, room)
						room[len(b)+at] = 0
					}
				}
			}
		}
		areRefused(t, slices.Concat(b, b))
		areRefused(t, slices.Concat([]byte{0}, b))
		areRefused(t, b[1:])
	}
}

func TestWhatStandsAhead(t *testing.T) {
	b := write(small())
	for at := range 4 {
		for c := range 256 {
			other := slices.Clone(b)
			other[at] = byte(c)
			asRead(t, other)
		}
	}
	for _, ahead := range []string{"", "P", "PLL", "PLLV", "pllw", "PLLWPLLW", "WLLP", "PLW", "\x00PLLW"} {
		areRefused(t, append([]byte(ahead), b[4:]...))
		areRefused(t, []byte(ahead))
	}
	for _, b := range [][]byte{nil, {}, []byte("PLLW"), []byte("PLLW\x00"), make([]byte, 256)} {
		areRefused(t, b)
	}
}

// otherwise answers bytes of which one is another, is gone, or stands for a number that is written longer, or is greater.
func otherwise(b []byte, at int) [][]byte {
	var l [][]byte
	put := func(c ...byte) { l = append(l, slices.Concat(b[:at], c, b[at+1:])) }
	for bit := range 8 {
		put(b[at] ^ 1<<bit)
	}
	for _, c := range []byte{0, 1, 2, 3, 4, 0x7f, 0x80, 0xff, b[at] + 1, b[at] - 1} {
		put(c)
	}
	put()
	put(b[at], b[at])
	put(0, b[at])
	long := b[at] | 0x80
	put(long, 0)
	put(long, 0x80, 0)
	put(long, 1)
	put(long, 0x80, 2)                                              // 2^15 more
	put(long, 0x80, 0x80, 0x80, 0x10)                               // 2^32 more
	put(long, 0x80, 0x80, 0x80, 0x80, 0x80, 0x80, 0x80, 0x80, 1)    // 2^63 more
	put(long, 0x80, 0x80, 0x80, 0x80, 0x80, 0x80, 0x80, 0x80, 2)    // 2^64 more
	put(long, 0x80, 0x80, 0x80, 0x80, 0x80, 0x80, 0x80, 0x80, 0x80) // without an end
	put(0xff, 0xff, 0xff, 0xff, 0xff, 0xff, 0xff, 0xff, 0x7f)       // 2^63 - 1
	put(0xff, 0xff, 0xff, 0xff, 0xff, 0xff, 0xff, 0xff, 0xff, 1)    // 2^64 - 1
	return l
}

func TestBytesThatAreOthers(t *testing.T) {
	full := inode(small(), 3, func(x *api.Inode) { x.Attrs = attrs(names(8)...) })
	for _, f := range []api.Fs{fs(dir()), small(), full, chain(5), upward(5), linkedOften(file("often"), 64), linkedOften(link("twice"), 2), wide(130), filled("a", "é", "z"), one(link(strings.Repeat("x", 1000))), one(file(strings.Repeat("x", 300)))} {
		b := write(f)
		for at := range b {
			if at > 150 && at < len(b)-150 {
				continue
			}
			for _, other := range otherwise(b, at) {
				asRead(t, other)
				asRead(t, slices.Concat(other, []byte{0, 0}))
			}
		}
	}
}

// All short bytes of a few values, behind the beginnings of images: each is taken just as this test takes it.
func TestAllShortBytes(t *testing.T) {
	rows := [][]byte{nil}
	for i := 0; i < len(rows); i++ {
		if len(rows[i]) < 7 {
			for _, c := range []byte{0, 1, 2, 3, 'a'} {
				rows = append(rows, append(slices.Clone(rows[i]), c))
			}
		}
	}
	taken := 0
	for _, ahead := range []string{"", "\x01", "\x01\x02\x00\x00", "\x02\x02\x00\x00\x00\x01\x01a\x02", "\x03\x02\x00\x00\x00\x02\x01a\x01b\x02\x03\x01\x00\x00\x00\x00"} {
		for _, row := range rows {
			if asRead(t, slices.Concat([]byte("PLLW"+ahead), row)) {
				taken++
			}
		}
	}
	if taken < 50 {
		t.Errorf("%d of all short bytes are images: this test is worth little", taken)
	}
}

// What is said to be of any length takes no more room than its bytes.
func TestWhatIsSaidToBeLong(t *testing.T) {
	for _, n := range []int{9, 129, 257, 513, 1001, 32768, 32769, 1 << 24, 1<<31 - 1, 1 << 31, 1 << 40, math.MaxInt} {
		var count script
		count.number(n)
		for _, behind := range [][]byte{nil, {0}, make([]byte, 64), bytes.Repeat([]byte{1}, 1000), bytes.Repeat([]byte{2, 0, 0, 0, 0}, 700)} {
			for _, ahead := range []string{"", "0102", "010200", "01020000", "0102000000", "0202000000010161020100000000", "02020000000101610201000000"} {
				asRead(t, slices.Concat([]byte("PLLW"), hexed(t, ahead), count, behind))
			}
		}
	}
}

// Numbers in images are never taken round, however great they are.
func TestGreatNumbers(t *testing.T) {
	for _, by := range []uint64{1 << 8, 1 << 16, 1 << 31, 1 << 32, 1 << 33, 1 << 62, 1 << 63} {
		for _, f := range []string{"01# 02 00 00 00 00", "01 02# 00 00 00 00", "01 02 00# 00 00 00", "01 02 00 00# 00 00", "01 02 00 00 00# 00", "01 02 00 00 00 00#",
			"02 02 00 00 00 01 01 61 02# 01 00 00 00 00", "02 02 00 00 00 01 01# 61 02 01 00 00 00 00", "02 02 00 00 00 01 01 61 02 01# 00 00 00 00", "02 02 00 00 00 01 01 61 02 01 00 00 00 00#",
			"01 02 00 00 01 01# 61 00 00", "01 02 00 00 01 01 61 00# 00", "02 02 00 00 00 01 01 61 02 03 00 01# 61 00"} {
			ahead, behind, _ := strings.Cut(f, "#")
			right := hexed(t, ahead)
			greater := greaterBy(right[len(right)-1], by)
			if b := slices.Concat([]byte("PLLW"), right, hexed(t, behind)); !asRead(t, b) {
				t.Fatalf("%s is no image", f)
			}
			if b := slices.Concat([]byte("PLLW"), right[:len(right)-1], greater, hexed(t, behind)); asRead(t, b) && by > 256 {
				t.Errorf("%s is an image with 2^n more at the #", f)
			}
		}
	}
}

// greaterBy answers the bytes of a number of one byte and another one together.
func greaterBy(c byte, by uint64) []byte {
	var out []byte
	x := uint64(c) + by
	for ; x >= 128; x >>= 7 {
		out = append(out, byte(x)|0x80)
	}
	return append(out, byte(x))
}

// P16.1 to P16.3, of file systems by chance

// pick answers one of these.
func pick[T any](chance *rand.Rand, l ...T) T { return l[chance.Intn(len(l))] }

// grown answers a file system of n inodes by chance that may be: each is entered in a directory that is there, some are entered again elsewhere, and the numbers are in no order.
func grown(chance *rand.Rand, n int) api.Fs {
	nums := append([]int{0}, chance.Perm(n-1)...)
	l := make([]api.Inode, n)
	var dirs []int
	enter := func(i int) {
		at := pick(chance, dirs...)
		if x := &l[at]; len(x.Names) < 128 {
			x.Names = append(x.Names, fmt.Sprintf("%x-%d", chance.Intn(999), len(x.Names)))
			x.Nums = append(x.Nums, i+1)
		}
	}
	for at, num := range nums {
		i := num + 1
		if at == 0 {
			i = 0
		}
		l[i] = pick(chance, dir(), dir(), file("some"), file(strings.Repeat("x", chance.Intn(300))), link("a/b"))
		if at == 0 {
			l[i] = dir()
		} else {
			enter(i)
		}
		l[i].Mode = chance.Intn(4096)
		l[i].Attrs = attrs(names(chance.Intn(4) * chance.Intn(3))...)
		if l[i].Kind == api.Dir {
			dirs = append(dirs, i)
			continue
		}
		for range chance.Intn(3) {
			enter(i)
		}
	}
	for i := range l {
		slices.Sort(l[i].Names)
		shuffle(chance, l[i].Nums)
	}
	return fs(l...)
}

func shuffle[T any](chance *rand.Rand, l []T) {
	chance.Shuffle(len(l), func(i, j int) { l[i], l[j] = l[j], l[i] })
}

func TestGrownOnes(t *testing.T) {
	chance := rand.New(rand.NewSource(16))
	for range 3000 {
		f := grown(chance, 1+chance.Intn(30))
		if !may(f) {
			t.Fatalf("this test takes %s for one that may not be", told(f))
		}
		hasBytes(t, f, write(f))
	}
	for _, n := range []int{100, 300, 511, 512} {
		f := grown(chance, n)
		asSaid(t, f)
		isTree(t, f)
	}
}

// Any change of where inodes stand: whether there is a tree still is asked of this test.
func TestGrownOnesThatStandOtherwise(t *testing.T) {
	chance := rand.New(rand.NewSource(17))
	right := 0
	const times = 20000
	for range times {
		f := grown(chance, 2+chance.Intn(9))
		for range 1 + chance.Intn(3) {
			x := &f.Inodes[chance.Intn(len(f.Inodes))]
			if len(x.Nums) == 0 {
				continue
			}
			at := chance.Intn(len(x.Nums))
			switch chance.Intn(4) {
			case 0:
				x.Nums[at] = chance.Intn(len(f.Inodes) + 2)
			case 1:
				y := &f.Inodes[chance.Intn(len(f.Inodes))]
				if len(y.Nums) > 0 {
					to := chance.Intn(len(y.Nums))
					x.Nums[at], y.Nums[to] = y.Nums[to], x.Nums[at]
				}
			case 2:
				x.Nums, x.Names = slices.Delete(x.Nums, at, at+1), slices.Delete(x.Names, at, at+1)
			case 3:
				x.Nums, x.Names = append(x.Nums, 1+chance.Intn(len(f.Inodes))), append(x.Names, "~"+strings.Repeat("z", len(x.Names)))
			}
		}
		if chance.Intn(4) > 0 {
			f = linked(f)
		}
		if asSaid(t, f) {
			right++
			isTree(t, f)
		}
	}
	if right < times/20 || right > times*19/20 {
		t.Errorf("%d of %d may be: this test is worth little", right, times)
	}
}

func TestChangedOnes(t *testing.T) {
	chance := rand.New(rand.NewSource(18))
	changes := []func(*api.Inode){
		func(x *api.Inode) { x.Kind = api.Kind(chance.Intn(5)) },
		func(x *api.Inode) { x.Num += chance.Intn(3) - 1 },
		func(x *api.Inode) { x.Mode = pick(chance, -1, 0, 420, 4095, 4096) },
		func(x *api.Inode) { x.Links += chance.Intn(3) - 1 },
		func(x *api.Inode) { x.Data = make([]byte, pick(chance, 0, 1, 32768, 32769)) },
		func(x *api.Inode) { x.Target = pick(chance, "", "x", "a\x00", "\xff", strings.Repeat("y", 1001)) },
		func(x *api.Inode) { x.Attrs = attrs(pick(chance, slices.Concat(rightNames(), wrongNames())...)...) },
		func(x *api.Inode) { x.Attrs = []api.Attr{{Name: "a", Value: make([]byte, pick(chance, 0, 256, 257))}} },
		func(x *api.Inode) {
			if len(x.Names) > 0 {
				x.Names[chance.Intn(len(x.Names))] = pick(chance, "", ".", "a", "\xff", "zz")
			}
		},
		func(x *api.Inode) { *x = api.Inode{Num: x.Num, Kind: api.Link, Links: x.Links, Target: "t"} },
		func(x *api.Inode) { *x = api.Inode{Num: x.Num, Kind: api.File, Links: x.Links} },
		func(x *api.Inode) { *x = api.Inode{Num: x.Num, Kind: api.Dir, Links: x.Links} },
		func(*api.Inode) {},
	}
	right := 0
	const times = 8000
	for range times {
		f := grown(chance, 1+chance.Intn(6))
		for range 1 + chance.Intn(2) {
			pick(chance, changes...)(&f.Inodes[chance.Intn(len(f.Inodes))])
		}
		if asSaid(t, f) {
			right++
		}
	}
	if right < times/20 || right > times*19/20 {
		t.Errorf("%d of %d may be: this test is worth little", right, times)
	}
}

// P16.3

func TestGetOfPut(t *testing.T) {
	for _, f := range rightOnes() {
		b, e := lower.Put(f)
		if e != api.OK {
			t.Fatalf("Put(%s): %d", told(f), e)
		}
		got, e := lower.Get(b)
		if !reflect.DeepEqual(plain(got), plain(f)) || e != api.OK {
			t.Errorf("Get(Put(%s)): %s, %d", told(f), told(got), e)
		}
		if again, e := lower.Put(got); !bytes.Equal(again, b) || e != api.OK {
			t.Errorf("Put(Get(%s)): %s, %d", told(b), told(again), e)
		}
		isTree(t, got)
	}
}

// isTree asks that each inode's way up ends at the first one, and that of a directory there is just one.
func isTree(t *testing.T, f api.Fs) {
	t.Helper()
	above := map[int][]int{}
	for _, x := range f.Inodes {
		for _, num := range x.Nums {
			above[num] = append(above[num], x.Num)
		}
	}
	for _, x := range f.Inodes {
		if x.Kind == api.Dir && x.Num != 1 && len(above[x.Num]) != 1 {
			t.Errorf("the directory %d of %s stands in %v", x.Num, told(f), above[x.Num])
		}
		at := x.Num
		for range f.Inodes {
			if len(above[at]) > 0 {
				at = above[at][0]
			}
		}
		if at != 1 {
			t.Errorf("the way up from %d in %s is at %d still", x.Num, told(f), at)
		}
	}
}

// Directories that are within themselves are refused, however long the way round is.
func TestRings(t *testing.T) {
	for n := 1; n <= 40; n++ {
		for apart := range n {
			// From the directory apart on they are a ring, to which the ones ahead lead, or do not.
			l := many(n, func(i int) api.Inode { return dir("d", i+2) })
			l[n-1] = dir("d", apart+1)
			areRefused(t, write(fs(l...)))
			isRefused(t, fs(l...))
			if apart > 0 {
				l[apart-1] = dir()
				areRefused(t, write(fs(l...)))
				isRefused(t, fs(l...))
			}
		}
	}
}

// The rules that hold everywhere.

// nil and empty lists are the same.
func TestEmptyListsAreAsNone(t *testing.T) {
	f := fs(dir("a", 2, "b", 3), file(""), link("x"))
	for i := range f.Inodes {
		x := &f.Inodes[i]
		x.Attrs = []api.Attr{{Name: "a", Value: []byte{}}}
		if i > 0 {
			x.Attrs, x.Names, x.Nums = []api.Attr{}, []string{}, []int{}
		}
		x.Data = []byte{}
	}
	hasBytes(t, f, hexed(t, "504c4c57 03 02 ed03 00 01 0161 00 02 0161 0162 02 03 01 a403 00 00 00 03 ff03 01 78 00"))
	empty := api.Inode{Num: 1, Kind: api.Dir, Links: 1, Data: []byte{}, Names: []string{}, Nums: []int{}, Attrs: []api.Attr{}}
	hasBytes(t, api.Fs{Inodes: []api.Inode{empty}, Next: 2}, hexed(t, "504c4c57 01 02 00 00 00 00"))
	isRefused(t, api.Fs{Inodes: []api.Inode{}, Next: 1})
}

// What is handed in stays, and what stands behind its end is nobody's.
func TestArgumentsStay(t *testing.T) {
	for _, f := range slices.Concat(rightOnes(), wrongInodes(), wrongTrees(), lostOnes()) {
		was := plain(f)
		lower.Check(f)
		lower.Put(f)
		if !reflect.DeepEqual(plain(f), was) {
			t.Errorf("%s is changed to %s", told(was), told(f))
		}
		b := write(f)
		room := slices.Concat(b, []byte{1, 2, 3})
		got, e := lower.Get(room[:len(b)])
		if may(was) && (e != api.OK || !reflect.DeepEqual(plain(got), was)) {
			t.Errorf("Get of bytes with room behind them: %s, %d", told(got), e)
		}
		if !bytes.Equal(room, slices.Concat(b, []byte{1, 2, 3})) {
			t.Errorf("Get changes %s to %s", told(b), told(room))
		}
	}
}

// The room behind the end of a row is nobody's.
func TestRoomBehindRowsIsNobodys(t *testing.T) {
	f := small()
	want := write(f)
	f.Inodes = append(f.Inodes, file("behind"), dir("x", 9))[:6]
	for i := range f.Inodes {
		x := &f.Inodes[i]
		x.Names = append(x.Names, "behind", "")[:len(x.Names)]
		x.Nums = append(x.Nums, 1, -1)[:len(x.Nums)]
		x.Data = append(x.Data, 1, 2, 3)[:len(x.Data)]
		x.Attrs = append(x.Attrs, api.Attr{})[:len(x.Attrs)]
	}
	room := append(f.Inodes[2].Attrs[0].Value, 7)
	f.Inodes[2].Attrs[0].Value = room[:2]
	hasBytes(t, f, want)
	if room[2] != 7 || f.Inodes[:7][6].Target != "" || string(f.Inodes[:7][6].Data) != "behind" {
		t.Error("what stands behind a row is changed")
	}
}

// spoil changes all that an answer's lists have.
func spoil(f api.Fs) {
	for i := range f.Inodes {
		x := &f.Inodes[i]
		for j := range x.Attrs {
			for k := range x.Attrs[j].Value {
				x.Attrs[j].Value[k] ^= 0xff
			}
		}
		for j := range x.Data {
			x.Data[j] ^= 0xff
		}
		clear(x.Attrs)
		clear(x.Names)
		clear(x.Nums)
	}
	clear(f.Inodes)
}

// Answers are the caller's own: what is done to one changes neither what was handed in nor another answer.
func TestAnswersAreNewMemory(t *testing.T) {
	f := small()
	want := write(f)
	first, _ := lower.Put(f)
	second, _ := lower.Put(f)
	for i := range first {
		first[i] ^= 0xff
	}
	if !bytes.Equal(second, want) {
		t.Errorf("one Put's bytes change with another one's: %s", told(second))
	}
	hasBytes(t, f, want)
	in := slices.Clone(want)
	one, _ := lower.Get(in)
	other, _ := lower.Get(in)
	spoil(one)
	if !bytes.Equal(in, want) {
		t.Errorf("bytes change with what was read of them: %s", told(in))
	}
	for i := range in {
		in[i] ^= 0xff
	}
	if !reflect.DeepEqual(plain(other), plain(f)) {
		t.Errorf("what was read changes: %s", told(other))
	}
}

// No two lists of one answer share memory: what is appended to one does not reach another.
func TestListsOfAnAnswerAreApart(t *testing.T) {
	f := small()
	got, e := lower.Get(write(f))
	if e != api.OK {
		t.Fatal(e)
	}
	for _, x := range got.Inodes {
		_ = append(x.Data, 1, 2, 3, 4, 5, 6)
		_ = append(x.Names, "z", "z", "z")
		_ = append(x.Nums, 7, 7, 7)
		for _, a := range x.Attrs {
			_ = append(a.Value, 1, 2, 3, 4)
		}
	}
	if !reflect.DeepEqual(plain(got), plain(f)) {
		t.Errorf("what is appended to a list reaches another: %s", told(got))
	}
}

// Answers hang on nothing but the arguments, whoever else calls, and whatever was refused ahead.
func TestCallsKnowNothingOfOneAnother(t *testing.T) {
	f, g := small(), wide(200)
	wrong := inode(f, 3, func(x *api.Inode) { x.Links = 1 })
	var all sync.WaitGroup
	for range 8 {
		all.Go(func() {
			for range 20 {
				isRefused(t, wrong)
				hasBytes(t, f, write(f))
				areRefused(t, write(f)[1:])
				hasBytes(t, g, write(g))
			}
		})
	}
	all.Wait()
}

// Any bytes are answered.
func TestAnyBytes(t *testing.T) {
	chance := rand.New(rand.NewSource(19))
	for range 20000 {
		b := make([]byte, chance.Intn(80))
		for i := range b {
			b[i] = byte(chance.Intn(pick(chance, 3, 130, 256)))
		}
		asRead(t, b)
		asRead(t, slices.Concat([]byte("PLLW"), b))
	}
	for _, c := range []byte{0, 1, 2, 3, 0x7f, 0x80, 0xff} {
		b := bytes.Repeat([]byte{c}, 1<<20)
		areRefused(t, b)
		areRefused(t, slices.Concat([]byte("PLLW"), b))
		areRefused(t, slices.Concat([]byte("PLLW\x80\x04"), b))
	}
}

// Long rows are refused as short ones are.
func TestLongRows(t *testing.T) {
	n := 1 << 20
	isRefused(t, api.Fs{Inodes: make([]api.Inode, n), Next: n + 1})
	for _, change := range []func(*api.Inode){
		func(x *api.Inode) { x.Attrs = make([]api.Attr, n) },
		func(x *api.Inode) { x.Attrs = []api.Attr{{Name: "a", Value: make([]byte, n)}} },
		func(x *api.Inode) { x.Names, x.Nums = make([]string, n), make([]int, n) },
		func(x *api.Inode) { x.Nums = make([]int, n) },
		func(x *api.Inode) { x.Data = make([]byte, n) },
		func(x *api.Inode) { x.Target = strings.Repeat("x", n) },
	} {
		for num := 1; num <= 6; num++ {
			isRefused(t, inode(small(), num, change))
		}
	}
}
