package plain_test

import (
	"bytes"
	"fmt"
	"math"
	"math/rand"
	"reflect"
	"slices"
	"strings"
	"sync"
	"testing"

	"palimpsest/api"
	"palimpsest/plain"
)

// answer is what a call answers that changes a file system.
type answer struct {
	fs  api.Fs
	num int
	err api.Errno
}

// op is such a call: as the package does it, and as this test does.
type op struct {
	name string
	do   func(api.Fs) answer
	as   func(world, int) (int, api.Errno)
}

func makeOp(kind api.Kind, mode int, target string) op {
	return op{
		fmt.Sprintf("Make(%d, %d, %.30q)", kind, mode, target),
		func(f api.Fs) answer {
			g, num, e := plain.Make(f, kind, mode, target)
			return answer{g, num, e}
		},
		func(w world, next int) (int, api.Errno) { return w.make(next, kind, mode, target) },
	}
}

func enterOp(dir int, s string, num int) op {
	return op{
		fmt.Sprintf("Enter(%d, %.30q, %d)", dir, s, num),
		func(f api.Fs) answer {
			g, e := plain.Enter(f, dir, s, num)
			return answer{g, 0, e}
		},
		func(w world, _ int) (int, api.Errno) { return 0, w.enter(dir, s, num) },
	}
}

func leaveOp(dir int, s string) op {
	return op{
		fmt.Sprintf("Leave(%d, %.30q)", dir, s),
		func(f api.Fs) answer {
			g, num, e := plain.Leave(f, dir, s)
			return answer{g, num, e}
		},
		func(w world, _ int) (int, api.Errno) { return w.leave(dir, s) },
	}
}

func dropOp(num int) op {
	return op{
		fmt.Sprintf("Drop(%d)", num),
		func(f api.Fs) answer {
			g, e := plain.Drop(f, num)
			return answer{g, 0, e}
		},
		func(w world, _ int) (int, api.Errno) { return 0, w.drop(num) },
	}
}

func setOp(x api.Inode) op {
	return op{
		"Set(" + told(x) + ")",
		func(f api.Fs) answer {
			g, e := plain.Set(f, x)
			return answer{g, 0, e}
		},
		func(w world, _ int) (int, api.Errno) { return 0, w.set(x) },
	}
}

// told answers what something is, as far as a line shows it.
func told(x any) string {
	s := fmt.Sprintf("%+v", x)
	if len(s) > 400 {
		s = s[:400] + " .."
	}
	return strings.ToValidUTF8(s, "?")
}

// said answers what this test says that a call answers.
func said(f api.Fs, as func(world, int) (int, api.Errno)) answer {
	if !may(f) {
		return answer{bare(f), 0, 2}
	}
	w := open(f)
	num, e := as(w, f.Next)
	if e != 0 {
		return answer{err: e}
	}
	if g := w.fs(f.Next); may(g) {
		return answer{g, num, 0}
	}
	return answer{bare(f), 0, 2}
}

// asSaid asks that a call answers what this test says, and changes nothing that it was handed.
func (o op) asSaid(t *testing.T, f api.Fs) answer {
	t.Helper()
	was, want := bare(f), said(f, o.as)
	got := o.do(f)
	got.fs = bare(got.fs)
	if !reflect.DeepEqual(got, want) {
		t.Errorf("%s of %s: %s, not %s", o.name, told(f), told(got), told(want))
	}
	if !reflect.DeepEqual(bare(f), was) {
		t.Errorf("%s changes %s to %s", o.name, told(was), told(f))
	}
	return got
}

// is asks that a call answers just that error, with what belongs to it.
func (o op) is(t *testing.T, f api.Fs, want api.Errno) api.Fs {
	t.Helper()
	got := o.asSaid(t, f)
	if got.err != want {
		t.Errorf("%s of %s: %d, not %d", o.name, told(f), got.err, want)
	}
	return got.fs
}

// many answers n things, made of their numbers from 0 on.
func many[T any](n int, make func(int) T) []T {
	var l []T
	for i := range n {
		l = append(l, make(i))
	}
	return l
}

// names answers n names, rising.
func names(n int) []string {
	return many(n, func(i int) string { return string([]byte{'a' + byte(i/26), 'a' + byte(i%26)}) })
}

// numbers answers n numbers from first on.
func numbers(first, n int) []int { return many(n, func(i int) int { return first + i }) }

func attrs(names ...string) []api.Attr {
	return many(len(names), func(i int) api.Attr { return api.Attr{Name: names[i]} })
}

func file(num int, data string) api.Inode {
	return api.Inode{Num: num, Kind: api.File, Mode: 420, Data: []byte(data)}
}

func link(num int, target string) api.Inode {
	return api.Inode{Num: num, Kind: api.Link, Mode: 511, Target: target}
}

// row answers a directory with those names, and numbers from first on.
func row(num int, first int, names ...string) api.Inode {
	return api.Inode{Num: num, Kind: api.Dir, Mode: 493, Names: names, Nums: numbers(first, len(names))}
}

// dir answers a directory whose entries are names and numbers by turns.
func dir(num int, entries ...any) api.Inode {
	x := row(num, 0)
	for i := 0; i < len(entries); i += 2 {
		x.Names = append(x.Names, entries[i].(string))
		x.Nums = append(x.Nums, entries[i+1].(int))
	}
	return x
}

// fs answers a file system with right Links.
func fs(next int, l ...api.Inode) api.Fs {
	return linked(api.Fs{Inodes: l, Next: next})
}

// linked answers a file system whose Links are right, if they can be.
func linked(f api.Fs) api.Fs {
	f = bare(f)
	in := above(f)
	for i, x := range f.Inodes {
		f.Inodes[i].Links = len(in[x.Num])
		if x.Kind == api.Dir {
			f.Inodes[i].Links = 1
		}
	}
	return f
}

// with answers a file system that was changed.
func with(f api.Fs, change func(*api.Fs)) api.Fs {
	f = bare(f)
	change(&f)
	return f
}

// inode answers a file system of which one inode was changed.
func inode(f api.Fs, num int, change func(*api.Inode)) api.Fs {
	return with(f, func(f *api.Fs) {
		i := slices.IndexFunc(f.Inodes, func(x api.Inode) bool { return x.Num == num })
		change(&f.Inodes[i])
	})
}

// small answers a file system with some of all: a directory with a lesser number than its own directory's, a file that stands in three places, one and a link that stand nowhere, and directories that cannot be reached.
func small() api.Fs {
	f := fs(5,
		dir(1, "etc", 4, "hard", 7, "m", 9),
		dir(3),
		dir(4, "deep", 12, "motd", 7, "top", 1024),
		file(7, "hello"),
		link(9, "etc/motd"),
		dir(12, "one", 3),
		file(20, "of no name"),
		link(21, "nowhere"),
		dir(30, "below", 31, "here too", 7),
		dir(31),
		file(1024, ""),
	)
	f.Inodes[3].Attrs = []api.Attr{{Name: "a", Value: []byte{0, 255}}, {Name: "bc"}}
	f.Inodes[4].Attrs = attrs("x")
	f.Inodes[5].Attrs = attrs("user.é")
	return f
}

// chain answers n directories, each but the first one within the one ahead.
func chain(n int) api.Fs {
	l := many(n, func(i int) api.Inode { return dir(i+1, "d", i+2) })
	l[n-1] = dir(n)
	return fs(2, l...)
}

// upward answers n directories, each but the last one within the one behind; but the last one stands in the first.
func upward(n int) api.Fs {
	l := many(n, func(i int) api.Inode { return dir(i+1, "d", i) })
	l[0], l[1] = dir(1, "d", n), dir(2)
	return fs(2, l...)
}

// wide answers a file system of n inodes: directories with 128 names each, till all of them stand somewhere.
func wide(n int) api.Fs {
	l := many(n, func(i int) api.Inode { return file(i+1, "") })
	for i, next := 0, 2; next <= n; i++ {
		count := min(128, n+1-next)
		l[i] = row(i+1, next, names(count)...)
		next += count
	}
	return fs(n+1, l...)
}

// loose answers a file system of n inodes of which just the first one stands somewhere.
func loose(n int, num func(int) int) api.Fs {
	l := many(n, func(i int) api.Inode { return file(num(i), "") })
	l[0] = dir(1)
	return fs(2, l...)
}

// linkedOften answers an inode, 3, that stands in so many places, in two directories.
func linkedOften(x api.Inode, n int) api.Fs {
	three := func(int) int { return 3 }
	a, b := row(1, 0, names(n/2)...), row(2, 0, names(n-n/2)...)
	a.Nums, b.Nums = append(many(n/2, three), 2), many(n-n/2, three)
	a.Names = append(a.Names, "zz")
	return fs(2, a, b, x)
}

// filled answers a directory with a file for each of these names.
func filled(l ...string) api.Fs {
	return fs(2, append([]api.Inode{row(1, 2, l...)}, many(len(l), func(i int) api.Inode { return file(i+2, "") })...)...)
}

// rightNames answers rows of names that may be. What a name may be, the tests of layer 1 ask more closely.
func rightNames() [][]string {
	return [][]string{{"a"}, {"10", "9"}, {"B", "a", "aa", "b"}, {" ", "...", "\\"}, {"z", "é", "\uffff", "\U00010000"}, {strings.Repeat("é", 50)}, names(8)}
}

// wrongNames answers rows of names that may not be.
func wrongNames() [][]string {
	return [][]string{
		{""}, {"."}, {".."}, {"a/b"}, {"a\x00"}, {"\xff"}, {strings.Repeat("x", 101)}, {strings.Repeat("x", 40000)},
		{"a", "a"}, {"b", "a"}, {"a", "b", "b"}, {"a", "c", "b"}, {"9", "10"}, {"\U00010000", "\uffff"},
		{"", "a"}, {"a", "b/", "c"}, {"a", "b", "\xff"},
	}
}

// rightOnes answers file systems that may be: ordinary ones, and those at each edge.
func rightOnes() []api.Fs {
	l := []api.Fs{
		fs(2, dir(1)),
		fs(513, dir(1)),
		fs(2, api.Inode{Num: 1, Kind: api.Dir}),
		small(),
		fs(2, dir(1), file(2, "")), fs(2, dir(1), link(2, "t")), fs(2, dir(1), dir(2)),
		fs(2, dir(1, "x", 2), file(2, "")), fs(2, dir(1, "x", 2), link(2, "t")), fs(2, dir(1, "x", 2), dir(2)),
		fs(2, dir(1, "x", 1024), dir(1024)), fs(2, dir(1), dir(1024)), fs(2, dir(1), file(1024, "")),
		fs(2, dir(1, "a", 2, "b", 2, "c", 2), file(2, "thrice")),
		fs(2, dir(1, "a", 3, "b", 2), dir(2, "c", 4), dir(3, "c", 4), file(4, "in two directories")),
		fs(2, dir(1, "a", 4), dir(2, "a", 3), file(3, "numbers fall"), dir(4, "a", 2)),
		fs(2, dir(1), dir(2, "a", 3), dir(3, "a", 4), file(4, "cannot be reached")),
		fs(2, dir(1), dir(2, "a", 4), dir(3, "a", 2), dir(4, "a", 5), dir(5)),
		chain(2), chain(3), chain(512), upward(2), upward(3), upward(512),
		wide(127), wide(128), wide(129), wide(130), wide(511), wide(512),
		loose(511, func(i int) int { return i + 1 }), loose(512, func(i int) int { return i + 1 }), loose(512, func(i int) int { return 2*i + 1 }),
		with(loose(512, func(i int) int { return i + 513 }), func(f *api.Fs) { f.Inodes[0].Num = 1 }),
	}
	for _, next := range []int{2, 3, 7, 8, 511, 512, 513} {
		l = append(l, with(small(), func(f *api.Fs) { f.Next = next }))
	}
	for _, n := range []int{0, 1, 2, 63, 64} {
		l = append(l, linkedOften(file(3, "often"), n), linkedOften(link(3, "often"), n))
	}
	for _, n := range []int{0, 1, 32767, 32768} {
		l = append(l, inode(small(), 7, func(x *api.Inode) { x.Data = make([]byte, n) }), inode(small(), 20, func(x *api.Inode) { x.Data = make([]byte, n) }))
	}
	for _, target := range []string{"x", "/", "../a//b/./", "\xff\x01\n", strings.Repeat("x", 999), strings.Repeat("x", 1000)} {
		l = append(l, inode(small(), 9, func(x *api.Inode) { x.Target = target }), inode(small(), 21, func(x *api.Inode) { x.Target = target }))
	}
	for _, x := range small().Inodes {
		for _, mode := range []int{0, 1, 4094, 4095} {
			l = append(l, inode(small(), x.Num, func(x *api.Inode) { x.Mode = mode }))
		}
		for _, names := range rightNames() {
			l = append(l, inode(small(), x.Num, func(x *api.Inode) { x.Attrs = attrs(names[:min(8, len(names))]...) }))
		}
		for _, n := range []int{0, 1, 255, 256} {
			l = append(l, inode(small(), x.Num, func(x *api.Inode) { x.Attrs = []api.Attr{{Name: "a", Value: make([]byte, n)}} }))
		}
	}
	for _, names := range rightNames() {
		l = append(l, filled(names...))
	}
	return l
}

// odd answers numbers that are few things' numbers.
func odd(l ...int) []int {
	return append(l, 0, -1, 1<<32+1, 1<<32+2, math.MaxInt, math.MinInt, math.MinInt+1)
}

// wrongInodes answers file systems that may not be, since one of small's inodes may not be.
func wrongInodes() []api.Fs {
	var l []api.Fs
	for _, y := range small().Inodes {
		each := func(change func(*api.Inode)) { l = append(l, inode(small(), y.Num, change)) }
		for _, mode := range odd(4096, 4097, 32768)[1:] {
			if mode != 0 {
				each(func(x *api.Inode) { x.Mode = mode })
			}
		}
		for _, kind := range odd(1, 2, 3, 4, 5) {
			// A File that stands in one place, and has nothing, differs from a Dir in its kind alone.
			alike := y.Links == 1 && len(y.Data)+len(y.Names)+len(y.Target) == 0 && from(1, kind, 2)
			if api.Kind(kind) != y.Kind && !alike {
				each(func(x *api.Inode) { x.Kind = api.Kind(kind) })
			}
		}
		for _, links := range odd(1, 2, 3, 4, 63, 64, 65) {
			if links != y.Links {
				each(func(x *api.Inode) { x.Links = links })
			}
		}
		for _, names := range append(wrongNames(), names(9), names(200)) {
			each(func(x *api.Inode) { x.Attrs = attrs(names...) })
		}
		for _, n := range []int{257, 258, 40000} {
			each(func(x *api.Inode) { x.Attrs = []api.Attr{{Name: "a"}, {Name: "b", Value: make([]byte, n)}} })
		}
		for _, target := range []string{"", "x", "\x00", "a\x00b", strings.Repeat("x", 1001), strings.Repeat("x", 33000)} {
			if target == "" && y.Kind != api.Link || target == "x" && y.Kind == api.Link {
				continue
			}
			each(func(x *api.Inode) { x.Target = target })
		}
		for _, n := range []int{1, 32768, 32769, 65536} {
			if y.Kind != api.File || n > 32768 {
				each(func(x *api.Inode) { x.Data = make([]byte, n) })
			}
		}
		each(func(x *api.Inode) { x.Names = append(x.Names, "~") })
		each(func(x *api.Inode) { x.Nums = append(x.Nums, 20) })
		if y.Kind != api.Dir {
			l = append(l, linked(inode(small(), y.Num, func(x *api.Inode) { x.Names, x.Nums = []string{"a"}, []int{20} })))
			l = append(l, linked(inode(small(), y.Num, func(x *api.Inode) { x.Nums = []int{20} })))
			each(func(x *api.Inode) { x.Names = []string{"a"} })
		}
	}
	for _, names := range append(wrongNames(), names(129), names(130), names(400)) {
		l = append(l, filled(names...))
	}
	return l
}

// wrongRows answers file systems that may not be, since their numbers may not be.
func wrongRows() []api.Fs {
	l := []api.Fs{{}, {Next: 2}, {Inodes: fs(2, dir(1)).Inodes}, wide(513), wide(514), chain(513), loose(513, func(i int) int { return i + 1 })}
	for _, next := range odd(1, 514, 515, 1024, -2, -513) {
		l = append(l, with(small(), func(f *api.Fs) { f.Next = next }), with(fs(2, dir(1)), func(f *api.Fs) { f.Next = next }))
	}
	for i := range small().Inodes {
		// Each takes another one's number, or one on the other side of its neighbours.
		for _, num := range odd(1, 2, 3, 4, 7, 9, 12, 20, 21, 30, 31, 1024, 1025, 1026, -7) {
			f := with(small(), func(f *api.Fs) { f.Inodes[i].Num = num })
			if !may(f) {
				l = append(l, f, linked(f))
			}
		}
	}
	l = append(l, with(small(), func(f *api.Fs) { f.Inodes[1], f.Inodes[2] = f.Inodes[2], f.Inodes[1] }))
	l = append(l, with(small(), func(f *api.Fs) { f.Inodes[6], f.Inodes[7] = f.Inodes[7], f.Inodes[6] }))
	l = append(l, with(small(), func(f *api.Fs) { slices.Reverse(f.Inodes) }))
	for _, num := range odd(2, 3, 1024) {
		l = append(l, fs(2, dir(num)), fs(2, dir(num), file(1024, "")))
	}
	for _, num := range odd(1, 1025, 1026, 1<<20) {
		l = append(l, fs(2, dir(1), dir(num)), fs(2, dir(1), file(num, "")))
	}
	return append(l, fs(2, file(1, "")), fs(2, link(1, "x")), fs(2, file(1, ""), dir(2)), fs(2, file(1, ""), dir(2, "a", 1)), fs(2, link(1, "x"), dir(2)))
}

// wrongPlaces answers file systems that may not be, since their inodes do not stand where they may.
func wrongPlaces() []api.Fs {
	l := []api.Fs{
		fs(2, dir(1, "a", 1)),
		fs(2, dir(1), dir(2, "a", 1)),
		fs(2, dir(1, "a", 1), file(2, "")),
		fs(2, dir(1, "a", 2), dir(2, "a", 1)),
		fs(2, dir(1, "a", 2), dir(2, "a", 2)),
		fs(2, dir(1, "a", 2), dir(2, "a", 3), dir(3, "a", 2)),
		fs(2, dir(1, "a", 2), dir(2, "a", 3), dir(3, "a", 1)),
		fs(2, dir(1), dir(2, "a", 2)),
		fs(2, dir(1), dir(2, "a", 3), dir(3, "a", 2)),
		fs(2, dir(1), dir(2, "a", 3, "b", 4), dir(3, "a", 2), file(4, "within a ring")),
		fs(2, dir(1), dir(2, "b", 4), dir(3, "a", 4), file(4, ""), dir(5, "a", 6), dir(6, "a", 5)),
		fs(2, dir(1, "a", 2, "b", 2), dir(2)),
		fs(2, dir(1, "a", 2, "b", 3), dir(2, "a", 3), dir(3)),
		fs(2, dir(1, "a", 2, "b", 3), dir(2, "a", 4), dir(3, "a", 4), dir(4)),
		fs(2, dir(1), dir(2, "a", 4), dir(3, "a", 4), dir(4)),
		fs(2, dir(1), dir(2, "a", 3, "b", 3), dir(3)),
		linkedOften(file(3, ""), 65), linkedOften(link(3, "x"), 65), linkedOften(file(3, ""), 66), linkedOften(file(3, ""), 128),
		linkedOften(dir(3), 2), linkedOften(dir(3), 64),
	}
	for _, num := range odd(3, 512, 513, 1024, 1025) {
		l = append(l, fs(2, dir(1, "a", num), file(2, "")), fs(2, dir(1, "a", 2, "b", num), file(2, "")), fs(2, dir(1, "a", num, "b", 2), dir(2)))
		l = append(l, fs(2, dir(1, "a", 2), dir(2, "a", num)), fs(2, dir(1), dir(2, "a", num)))
	}
	for n := 1; n <= 40; n++ {
		for apart := range n {
			// From the directory apart on they are a ring, to which others lead; the first one does not.
			l = append(l, fs(2, append(many(n, func(i int) api.Inode { return dir(i+2, "d", i+3) })[:n-1], dir(n+1, "d", apart+2))...))
			last := len(l) - 1
			l[last].Inodes = append([]api.Inode{{Num: 1, Kind: api.Dir, Links: 1}}, l[last].Inodes...)
		}
	}
	return l
}

// wrongOnes answers file systems that may not be.
func wrongOnes() []api.Fs { return slices.Concat(wrongInodes(), wrongRows(), wrongPlaces()) }

// P17.1: Check

func TestCheck(t *testing.T) {
	for _, f := range rightOnes() {
		if !may(f) || !plain.Check(f) {
			t.Errorf("Check(%s): false", told(f))
		}
	}
	for _, f := range wrongOnes() {
		if may(f) || plain.Check(f) {
			t.Errorf("Check(%s): true", told(f))
		}
	}
}

// grown answers a file system of n inodes that stand anywhere, in many directories once or more; sometimes it may be.
func grown(chance *rand.Rand, n int) api.Fs {
	l := many(n, func(i int) api.Inode {
		num := i*(1+chance.Intn(2)) + 1
		return []api.Inode{file(num, "data"), dir(num), dir(num), link(num, "target")}[chance.Intn(4)]
	})
	l[0].Kind, l[0].Data, l[0].Target = api.Dir, nil, ""
	slices.SortFunc(l, func(x, y api.Inode) int { return x.Num - y.Num })
	l = slices.CompactFunc(l, func(x, y api.Inode) bool { return x.Num == y.Num })
	for i := 1; i < len(l); i++ {
		for range []int{0, 1, 1, 1, 2}[chance.Intn(5)] {
			d := &l[chance.Intn(len(l))]
			if d.Kind == api.Dir {
				d.Names, d.Nums = append(d.Names, names(26)[len(d.Names)]), append(d.Nums, l[i].Num)
			}
		}
	}
	return fs(2+chance.Intn(4), l...)
}

func TestCheckOfAny(t *testing.T) {
	chance := rand.New(rand.NewSource(17))
	right := 0
	const times = 20000
	for range times {
		f := grown(chance, 1+chance.Intn(8))
		if chance.Intn(4) == 0 {
			f.Inodes[chance.Intn(len(f.Inodes))].Links += chance.Intn(3) - 1
		}
		if chance.Intn(8) == 0 {
			f.Inodes[chance.Intn(len(f.Inodes))].Num += chance.Intn(3) - 1
		}
		if plain.Check(f) != may(f) {
			t.Errorf("Check(%s): %v", told(f), !may(f))
		}
		if may(f) {
			right++
		}
	}
	if right < times/20 || right > times*19/20 {
		t.Errorf("%d of %d may be: this test is worth little", right, times)
	}
}

// ErrArg of what may not be

func TestWrongFileSystems(t *testing.T) {
	calls := []op{
		makeOp(api.File, 420, ""), makeOp(0, -1, "x"),
		enterOp(1, "new", 2), enterOp(1, "new", 7), enterOp(1, "a", 9999), enterOp(7, "", 1), enterOp(9999, "..", 1),
		leaveOp(1, "etc"), leaveOp(1, "none"), leaveOp(9999, "a"), leaveOp(2, "a"),
		dropOp(1), dropOp(2), dropOp(20), dropOp(9999),
		setOp(api.Inode{Num: 1}), setOp(api.Inode{Num: 7, Mode: 1}), setOp(api.Inode{Num: 9999}),
	}
	for _, f := range wrongOnes() {
		for _, o := range calls {
			o.is(t, f, api.ErrArg)
		}
		for _, num := range []int{1, 2, 3, 4, 7, 9999} {
			if at, up := plain.Find(f, num), plain.Parent(f, num); at != 0 || up != 0 {
				t.Errorf("Find, Parent(%s, %d): %d, %d", told(f), num, at, up)
			}
			if who, e := plain.Lookup(f, num, "a"); who != 0 || e != api.ErrArg {
				t.Errorf("Lookup(%s, %d): %d, %d", told(f), num, who, e)
			}
		}
	}
}

// P17.2

// seen asks that Find, Lookup and Parent answer what this test says.
func seen(t *testing.T, f api.Fs, nums []int, names []string) {
	t.Helper()
	w := open(f)
	for _, num := range nums {
		want := slices.IndexFunc(f.Inodes, func(x api.Inode) bool { return x.Num == num })
		if got := plain.Find(f, num); got != want {
			t.Errorf("Find(%s, %d): %d, not %d", told(f), num, got, want)
		}
		if got, want := plain.Parent(f, num), w.parent(num); got != want {
			t.Errorf("Parent(%s, %d): %d, not %d", told(f), num, got, want)
		}
		for _, s := range names {
			want, e := w.lookup(num, s)
			if got, g := plain.Lookup(f, num, s); got != want || g != e {
				t.Errorf("Lookup(%s, %d, %q): %d, %d, not %d, %d", told(f), num, s, got, g, want, e)
			}
		}
	}
}

func TestFindLookupParent(t *testing.T) {
	strange := append(wrongNames(), []string{"none", "et", "etcs", "Etc", "~", strings.Repeat("y", 100)})
	for _, f := range []api.Fs{small(), fs(2, dir(1)), filled(rightNames()[4]...), upward(5), chain(5), wide(130)} {
		l := slices.Concat(strange...)
		for _, x := range f.Inodes {
			l = append(l, x.Names[:min(3, len(x.Names))]...)
		}
		seen(t, f, odd(1, 2, 3, 4, 5, 6, 7, 8, 9, 11, 12, 13, 20, 21, 30, 31, 32, 129, 130, 131, 1023, 1024, 1025), l)
	}
	for _, f := range rightOnes() {
		seen(t, f, odd(1, 2, 3, 4, 7, 12, 127, 128, 511, 512, 1023, 1024, 1025), []string{"a", "d", "aa", "etc", ""})
	}
	for _, f := range []api.Fs{small(), wide(512), loose(512, func(i int) int { return 2*i + 1 })} {
		seen(t, f, numbers(-1, 1030), nil)
	}
}

func TestByHand(t *testing.T) {
	f := small()
	for _, c := range []struct {
		dir int
		s   string
		num int
		e   api.Errno
	}{
		{1, "etc", 4, api.OK}, {1, "hard", 7, api.OK}, {4, "top", 1024, api.OK}, {12, "one", 3, api.OK}, {30, "here too", 7, api.OK},
		{1, "motd", 0, api.ErrNoEnt}, {3, "one", 0, api.ErrNoEnt}, {2, "etc", 0, api.ErrNoEnt}, {0, "etc", 0, api.ErrNoEnt}, {-1, "", 0, api.ErrNoEnt},
		{7, "etc", 0, api.ErrNotDir}, {9, "motd", 0, api.ErrNotDir}, {20, "", 0, api.ErrNotDir}, {1, "", 0, api.ErrNoEnt}, {1, "..", 0, api.ErrNoEnt},
	} {
		if num, e := plain.Lookup(f, c.dir, c.s); num != c.num || e != c.e {
			t.Errorf("Lookup(%d, %q): %d, %d, not %d, %d", c.dir, c.s, num, e, c.num, c.e)
		}
	}
	for num, want := range map[int]int{1: 0, 3: 12, 4: 1, 7: 0, 9: 0, 12: 4, 20: 0, 30: 0, 31: 30, 1024: 0, 2: 0, 0: 0, -1: 0} {
		if got := plain.Parent(f, num); got != want {
			t.Errorf("Parent(%d): %d, not %d", num, got, want)
		}
	}
	for num, want := range map[int]int{1: 0, 3: 1, 4: 2, 1024: 10, 2: -1, 0: -1, 1025: -1, math.MinInt: -1, math.MaxInt: -1} {
		if got := plain.Find(f, num); got != want {
			t.Errorf("Find(%d): %d, not %d", num, got, want)
		}
	}
}

// P17.3

// The chapter's example.
func TestExample(t *testing.T) {
	f, num, e := plain.Make(fs(2, dir(1)), api.File, 420, "")
	if num != 2 || e != api.OK {
		t.Fatal(num, e)
	}
	links := func(want int) {
		t.Helper()
		if got := f.Inodes[plain.Find(f, num)].Links; got != want {
			t.Errorf("Links %d, not %d", got, want)
		}
	}
	links(0)
	f, e = plain.Enter(f, 1, "a", num)
	links(1)
	f, g := plain.Enter(f, 1, "b", num)
	links(2)
	f, who, h := plain.Leave(f, 1, "a")
	links(1)
	if e != api.OK || g != api.OK || h != api.OK || who != num || !slices.Equal(f.Inodes[0].Names, []string{"b"}) {
		t.Error(told(f), e, g, h, who)
	}
}

func TestMake(t *testing.T) {
	for _, kind := range odd(1, 2, 3, 4) {
		for _, mode := range odd(1, 493, 4095, 4096) {
			for _, target := range []string{"", "x", "\xff", "a\x00", strings.Repeat("x", 1000), strings.Repeat("x", 1001)} {
				makeOp(api.Kind(kind), mode, target).asSaid(t, small())
				makeOp(api.Kind(kind), mode, target).asSaid(t, fs(513, dir(1)))
			}
		}
	}
	// Where there is no room, it is not looked at what would be made.
	for _, o := range []op{makeOp(api.File, 420, ""), makeOp(api.Dir, 420, ""), makeOp(0, 420, ""), makeOp(api.Link, 420, ""), makeOp(api.File, -1, "x")} {
		o.is(t, wide(512), api.ErrNoSpc)
		o.is(t, loose(512, func(i int) int { return 2*i + 1 }), api.ErrNoSpc)
	}
	for _, f := range rightOnes() {
		makeOp(api.Dir, 493, "").asSaid(t, f)
		makeOp(api.File, 0, "").asSaid(t, f)
		makeOp(api.Link, 511, "to").asSaid(t, f)
	}
}

// The Num of a new one is the least from Next on that none has.
func TestNumsOfNewOnes(t *testing.T) {
	odds := loose(511, func(i int) int { return 2*i + 1 })
	all := loose(511, func(i int) int { return i + 1 })
	late := with(loose(511, func(i int) int { return i + 512 }), func(f *api.Fs) { f.Inodes[0].Num = 1 })
	for _, c := range []struct {
		f          api.Fs
		next, want int
	}{
		{small(), 2, 2}, {small(), 3, 5}, {small(), 4, 5}, {small(), 5, 5}, {small(), 6, 6}, {small(), 7, 8}, {small(), 8, 8},
		{small(), 19, 19}, {small(), 20, 22}, {small(), 21, 22}, {small(), 30, 32}, {small(), 513, 513},
		{odds, 2, 2}, {odds, 3, 4}, {odds, 511, 512}, {odds, 513, 514}, {all, 2, 512}, {all, 300, 512}, {all, 511, 512}, {all, 513, 513},
		{late, 2, 2}, {late, 512, 512}, {late, 513, 1023},
	} {
		f := with(c.f, func(f *api.Fs) { f.Next = c.next })
		for _, x := range []api.Inode{{Kind: api.File}, {Kind: api.Dir, Links: 1}, {Kind: api.Link, Target: "t"}} {
			x.Mode = 7
			g, num, e := plain.Make(f, x.Kind, x.Mode, x.Target)
			if num != c.want || e != api.OK || g.Next != c.next || len(g.Inodes) != len(f.Inodes)+1 {
				t.Fatalf("Make of Next %d of %s: %d, %d, %s", c.next, told(f), num, e, told(g))
			}
			x.Num = num
			if got := bare(g).Inodes[plain.Find(g, num)]; !reflect.DeepEqual(got, x) {
				t.Errorf("Make makes %s, not %s", told(got), told(x))
			}
			makeOp(x.Kind, x.Mode, x.Target).asSaid(t, f)
		}
	}
}

// Of the calls that are refused each error is told, and of several the one that is named first.
func TestEnterErrors(t *testing.T) {
	// The first directory has 128 names: 64 of the file 3, one of the directory 100, and others; 2, 200 and 201 stand nowhere.
	full := row(1, 36, names(128)...)
	copy(full.Nums, many(64, func(int) int { return 3 }))
	l := []api.Inode{full, dir(2), file(3, "often"), dir(100)}
	l = append(l, many(63, func(i int) api.Inode { return file(i+101, "") })...)
	crowded := fs(2, append(l, file(200, ""), link(201, "t"))...)
	for _, c := range []struct {
		f    api.Fs
		o    op
		want api.Errno
	}{
		{small(), enterOp(2, "new", 7), api.ErrNoEnt}, {small(), enterOp(2, "", 2), api.ErrNoEnt}, {small(), enterOp(-1, "a/b", 7), api.ErrNoEnt},
		{small(), enterOp(7, "new", 7), api.ErrNotDir}, {small(), enterOp(9, "", 2), api.ErrNotDir}, {small(), enterOp(7, "..", 7), api.ErrNotDir},
		{small(), enterOp(1, "", 7), api.ErrInval}, {small(), enterOp(1, ".", 2), api.ErrInval}, {small(), enterOp(1, "..", 1), api.ErrInval}, {small(), enterOp(1, "a/b", 7), api.ErrInval}, {small(), enterOp(1, "\xff", 7), api.ErrInval},
		{small(), enterOp(1, strings.Repeat("x", 101), 7), api.ErrNameLong}, {small(), enterOp(1, strings.Repeat("/", 101), 2), api.ErrNameLong}, {small(), enterOp(1, strings.Repeat("x", 100), 7), api.OK},
		{small(), enterOp(1, "etc", 7), api.ErrExist}, {small(), enterOp(1, "etc", 2), api.ErrExist}, {small(), enterOp(1, "etc", 4), api.ErrExist}, {small(), enterOp(1, "hard", 1), api.ErrExist},
		{small(), enterOp(1, "new", 2), api.ErrNoEnt}, {small(), enterOp(1, "new", 0), api.ErrNoEnt}, {small(), enterOp(1, "new", math.MinInt), api.ErrNoEnt},
		{small(), enterOp(1, "new", 1), api.ErrArg}, {small(), enterOp(1, "new", 4), api.ErrArg}, {small(), enterOp(3, "new", 1), api.ErrArg}, {small(), enterOp(3, "new", 3), api.ErrArg},
		{small(), enterOp(31, "new", 30), api.ErrArg}, {small(), enterOp(30, "new", 30), api.ErrArg}, {small(), enterOp(31, "new", 31), api.ErrArg}, {small(), enterOp(3, "new", 30), api.OK}, {small(), enterOp(1, "new", 30), api.OK},
		{small(), enterOp(30, "below", 30), api.ErrExist}, {small(), enterOp(30, "more", 31), api.ErrArg},
		{crowded, enterOp(1, "new", 200), api.ErrNoSpc}, {crowded, enterOp(1, "new", 201), api.ErrNoSpc}, {crowded, enterOp(1, "new", 2), api.ErrNoSpc},
		{crowded, enterOp(1, "new", 1), api.ErrNoSpc}, {crowded, enterOp(1, "new", 100), api.ErrNoSpc},
		{crowded, enterOp(1, "new", 3), api.ErrMLink}, {crowded, enterOp(2, "new", 3), api.ErrMLink}, {crowded, enterOp(2, "new", 200), api.OK}, {crowded, enterOp(2, "new", 201), api.OK},
		{crowded, enterOp(1, "aa", 3), api.ErrExist}, {crowded, enterOp(1, "aa", 200), api.ErrExist}, {crowded, enterOp(1, "aa", 300), api.ErrExist}, {crowded, enterOp(1, "new", 300), api.ErrNoEnt},
		{crowded, enterOp(1, ".", 3), api.ErrInval}, {crowded, enterOp(1, ".", 300), api.ErrInval}, {crowded, enterOp(2, "new", 100), api.ErrArg}, {crowded, enterOp(2, "new", 2), api.ErrArg},
	} {
		if !may(c.f) {
			t.Fatalf("this test's own %s may not be", told(c.f))
		}
		c.o.is(t, c.f, c.want)
	}
}

func TestEnter(t *testing.T) {
	some := []string{"", ".", "a/b", "\xff", "a", "b", "be", "etc", "hard", "one", "below", "here", "z", "é", strings.Repeat("x", 100), strings.Repeat("x", 101)}
	for _, f := range []api.Fs{small(), upward(4), fs(2, dir(1), dir(2), dir(3)), fs(2, dir(1, "a", 2), dir(2, "b", 3), file(3, ""))} {
		for _, dir := range odd(1, 2, 3, 4, 7, 9, 12, 20, 30, 31, 1024) {
			for _, num := range odd(1, 2, 3, 4, 7, 9, 12, 20, 21, 30, 31, 1024) {
				for _, s := range some {
					enterOp(dir, s, num).asSaid(t, f)
				}
			}
		}
	}
}

// The edges of MaxLinks and MaxDir: the last that fits, and the first that does not.
func TestEnterEdges(t *testing.T) {
	for _, x := range []api.Inode{file(3, ""), link(3, "t")} {
		f := linkedOften(x, 0)
		for i, s := range names(70) {
			want := api.OK
			if i >= 64 {
				want = api.ErrMLink
			}
			g := enterOp(1+i%2, s, 3).is(t, f, want)
			if want == api.OK {
				f = g
			}
		}
	}
	f := loose(131, func(i int) int { return i + 1 })
	for i, s := range names(130) {
		want := api.OK
		if i >= 128 {
			want = api.ErrNoSpc
		}
		g := enterOp(1, s, i+2).is(t, f, want)
		if want == api.OK {
			f = g
		}
	}
}

func TestLeave(t *testing.T) {
	some := []string{"", "..", "a", "etc", "hard", "m", "deep", "motd", "one", "below", "none", "\xff", strings.Repeat("x", 101)}
	for _, f := range []api.Fs{small(), chain(4), filled("a", "b", "c"), linkedOften(file(3, ""), 64), linkedOften(link(3, "t"), 1)} {
		for _, dir := range odd(1, 2, 3, 4, 7, 9, 12, 20, 30, 31) {
			for _, s := range append(some, names(34)...) {
				leaveOp(dir, s).asSaid(t, f)
			}
		}
	}
	f := small()
	leaveOp(2, "etc").is(t, f, api.ErrNoEnt)
	leaveOp(7, "etc").is(t, f, api.ErrNotDir)
	leaveOp(1, "none").is(t, f, api.ErrNoEnt)
	for _, c := range []struct {
		dir      int
		s        string
		num, was int
	}{{1, "etc", 4, 1}, {1, "hard", 7, 3}, {30, "below", 31, 1}, {4, "top", 1024, 1}} {
		g, num, e := plain.Leave(f, c.dir, c.s)
		links := c.was - 1
		if f.Inodes[plain.Find(f, num)].Kind == api.Dir {
			links = 1
		}
		if num != c.num || e != api.OK || g.Inodes[plain.Find(g, num)].Links != links {
			t.Errorf("Leave(%d, %q): %d, %d, %s", c.dir, c.s, num, e, told(g))
		}
		if _, e := plain.Lookup(g, c.dir, c.s); e != api.ErrNoEnt {
			t.Errorf("Lookup behind Leave(%d, %q): %d", c.dir, c.s, e)
		}
	}
}

func TestDrop(t *testing.T) {
	for _, f := range rightOnes() {
		for _, num := range odd(1, 2, 3, 4, 7, 9, 12, 20, 21, 30, 31, 512, 1024, 1025) {
			dropOp(num).asSaid(t, f)
		}
	}
	for num, want := range map[int]api.Errno{
		2: api.ErrNoEnt, 0: api.ErrNoEnt, -1: api.ErrNoEnt,
		1: api.ErrBusy, 3: api.ErrBusy, 4: api.ErrBusy, 7: api.ErrBusy, 9: api.ErrBusy, 12: api.ErrBusy, 30: api.ErrBusy, 31: api.ErrBusy, 1024: api.ErrBusy,
		20: api.OK, 21: api.OK,
	} {
		dropOp(num).is(t, small(), want)
	}
	dropOp(1).is(t, fs(2, dir(1)), api.ErrBusy)
	dropOp(2).is(t, fs(2, dir(1), dir(2)), api.OK)
	dropOp(2).is(t, fs(2, dir(1), dir(2, "a", 3), file(3, "")), api.ErrBusy)
	// What was dropped may be made again.
	g := dropOp(20).is(t, small(), api.OK)
	if _, num, e := plain.Make(with(g, func(f *api.Fs) { f.Next = 20 }), api.File, 0, ""); num != 20 || e != api.OK {
		t.Error(num, e)
	}
}

func TestSet(t *testing.T) {
	var changes []api.Inode
	for _, mode := range odd(1, 420, 4095, 4096) {
		changes = append(changes, api.Inode{Mode: mode})
	}
	for _, n := range []int{1, 2, 32768, 32769} {
		changes = append(changes, api.Inode{Data: make([]byte, n)})
	}
	for _, names := range slices.Concat(rightNames(), wrongNames(), [][]string{names(9)}) {
		changes = append(changes, api.Inode{Mode: 1, Attrs: attrs(names...)})
	}
	for _, n := range []int{1, 256, 257} {
		changes = append(changes, api.Inode{Attrs: []api.Attr{{Name: "a", Value: make([]byte, n)}}})
	}
	// What stays is not looked at, whatever it is.
	for _, kind := range odd(1, 2, 3, 4) {
		changes = append(changes, api.Inode{Kind: api.Kind(kind), Mode: 2})
	}
	for _, links := range odd(1, 2, 64, 65) {
		changes = append(changes, api.Inode{Links: links, Mode: 3})
	}
	changes = append(changes, api.Inode{Target: "elsewhere"}, api.Inode{Target: "\x00"}, api.Inode{Names: []string{"a"}}, api.Inode{Nums: []int{7}}, api.Inode{Names: []string{"..", ""}, Nums: []int{-1, 1}})
	for _, x := range changes {
		for _, num := range odd(1, 2, 3, 4, 7, 9, 12, 20, 21, 30, 31, 1024) {
			x.Num = num
			setOp(x).asSaid(t, small())
		}
	}
	setOp(api.Inode{Num: 2, Mode: -1}).is(t, small(), api.ErrNoEnt)
	setOp(api.Inode{Num: 7, Mode: -1}).is(t, small(), api.ErrArg)
	setOp(api.Inode{Num: 4, Data: []byte{1}}).is(t, small(), api.ErrArg)
	setOp(api.Inode{Num: 9, Data: []byte{1}}).is(t, small(), api.ErrArg)
	want := api.Inode{Num: 7, Kind: api.File, Mode: 1, Links: 3, Data: []byte("new"), Attrs: []api.Attr{{Name: "z", Value: []byte("y")}}}
	x := want
	x.Kind, x.Links, x.Target, x.Names, x.Nums = api.Dir, 9, "t", []string{"n"}, []int{1}
	g := setOp(x).is(t, small(), api.OK)
	if got := g.Inodes[plain.Find(g, 7)]; !reflect.DeepEqual(got, want) {
		t.Errorf("Set sets %s, not %s", told(got), told(want))
	}
}

// pick answers one of some things.
func pick[T any](chance *rand.Rand, l ...T) T { return l[chance.Intn(len(l))] }

// anyOp answers a call whose arguments are mostly those of a file system's own.
func anyOp(chance *rand.Rand, f api.Fs) op {
	num := func() int { return pick(chance, f.Inodes...).Num + pick(chance, 0, 0, 0, 0, 0, 1) }
	s := pick(chance, names(6)...)
	if d := pick(chance, f.Inodes...); chance.Intn(3) > 0 && len(d.Names) > 0 {
		s = pick(chance, d.Names...)
	}
	switch chance.Intn(9) {
	case 0, 1:
		kind := pick(chance, api.File, api.Dir, api.Dir, api.Link)
		return makeOp(kind, pick(chance, 0, 493, 4096), map[api.Kind]string{api.Link: "to"}[kind])
	case 2, 3, 4, 5:
		return enterOp(num(), s, num())
	case 6:
		return leaveOp(num(), s)
	case 7:
		return dropOp(num())
	}
	return setOp(api.Inode{Num: num(), Mode: chance.Intn(4097), Data: make([]byte, chance.Intn(2)), Attrs: attrs(names(chance.Intn(10))...)})
}

// Whatever is done, one call behind the other: it is what this test says, and what comes of it may be.
func TestScripts(t *testing.T) {
	chance := rand.New(rand.NewSource(3))
	count := map[api.Errno]int{}
	for i := range 150 {
		f := pick(chance, small(), fs(2, dir(1)), with(wide(510), func(f *api.Fs) { f.Next = 2 }))
		if i > 0 && len(f.Inodes) > 100 && i%10 > 0 {
			f = chain(3)
		}
		for range 120 {
			o := anyOp(chance, f)
			got := o.asSaid(t, f)
			count[got.err]++
			if got.err == api.OK {
				f = got.fs
			}
			if !plain.Check(f) {
				t.Fatalf("%s leads to %s", o.name, told(f))
			}
		}
	}
	for _, e := range []api.Errno{api.OK, api.ErrArg, api.ErrNoEnt, api.ErrNotDir, api.ErrExist, api.ErrBusy, api.ErrNoSpc} {
		if count[e] < 20 {
			t.Errorf("%d was answered %d times: this test is worth little", e, count[e])
		}
	}
}

// The rules that hold everywhere.

// everyOp answers calls that are done, and calls that are refused, each with what it was handed.
func everyOp() []op {
	x := api.Inode{Num: 7, Mode: 1, Data: []byte("new"), Attrs: []api.Attr{{Name: "z", Value: []byte("y")}}}
	y := x
	y.Mode = -1
	return []op{
		makeOp(api.File, 1, ""), makeOp(api.Dir, 1, ""), makeOp(api.Link, 1, "t"), makeOp(4, 1, ""),
		enterOp(1, "a", 20), enterOp(1, "~", 30), enterOp(3, "x", 7), enterOp(30, "a", 30),
		leaveOp(1, "etc"), leaveOp(1, "hard"), leaveOp(30, "below"),
		dropOp(20), dropOp(21), setOp(x), setOp(y),
	}
}

// nil and empty lists are the same.
func TestEmptyListsAreAsNone(t *testing.T) {
	f := small()
	for i := range f.Inodes {
		x := &f.Inodes[i]
		x.Data, x.Names, x.Nums, x.Attrs = slices.Concat([]byte{}, x.Data), append([]string{}, x.Names...), append([]int{}, x.Nums...), append([]api.Attr{}, x.Attrs...)
		for j := range x.Attrs {
			x.Attrs[j].Value = append([]byte{}, x.Attrs[j].Value...)
		}
	}
	if !plain.Check(f) {
		t.Error("empty lists may not be")
	}
	for _, o := range everyOp() {
		o.asSaid(t, f)
	}
	g, e := plain.Set(f, api.Inode{Num: 1, Data: []byte{}, Attrs: []api.Attr{}, Names: []string{}, Nums: []int{}})
	if e != api.OK || !plain.Check(g) {
		t.Error(e)
	}
	if e := makeOp(api.File, 0, "").asSaid(t, api.Fs{Inodes: []api.Inode{}, Next: 2}).err; e != api.ErrArg {
		t.Error(e)
	}
}

// roomy answers a file system behind the end of whose rows there is something.
func roomy(f api.Fs) api.Fs {
	f = bare(f)
	f.Inodes = append(f.Inodes, file(1025, "behind"), dir(-1, "x", 9))[:len(f.Inodes)]
	for i := range f.Inodes {
		x := &f.Inodes[i]
		x.Data = append(x.Data, 1, 2, 3)[:len(x.Data)]
		x.Names = append(x.Names, "", "behind")[:len(x.Names)]
		x.Nums = append(x.Nums, -1, 1)[:len(x.Nums)]
		for j := range x.Attrs {
			x.Attrs[j].Value = append(x.Attrs[j].Value, 7, 8)[:len(x.Attrs[j].Value)]
		}
		x.Attrs = append(x.Attrs, api.Attr{Name: "behind", Value: []byte("it")})[:len(x.Attrs)]
	}
	return f
}

// whole answers a file system with what stands behind the end of its rows.
func whole(f api.Fs) api.Fs {
	f.Inodes = slices.Clone(f.Inodes[:cap(f.Inodes)])
	for i := range f.Inodes {
		x := &f.Inodes[i]
		x.Data, x.Names, x.Nums, x.Attrs = x.Data[:cap(x.Data)], x.Names[:cap(x.Names)], x.Nums[:cap(x.Nums)], slices.Clone(x.Attrs[:cap(x.Attrs)])
		for j := range x.Attrs {
			x.Attrs[j].Value = x.Attrs[j].Value[:cap(x.Attrs[j].Value)]
		}
	}
	return f
}

// The room behind the end of a row is nobody's: it is neither looked at nor changed.
func TestRoomBehindRowsIsNobodys(t *testing.T) {
	for _, o := range everyOp() {
		f := roomy(small())
		was := bare(whole(f))
		o.asSaid(t, f)
		if !reflect.DeepEqual(bare(whole(f)), was) {
			t.Errorf("%s changes what stands behind a row: %s", o.name, told(whole(f)))
		}
	}
	f := roomy(small())
	was := bare(whole(f))
	seen(t, f, numbers(-1, 40), []string{"behind", "", "etc", "x"})
	if !reflect.DeepEqual(bare(whole(f)), was) {
		t.Error("what stands behind a row is changed")
	}
}

// spoil changes all that an answer's lists have, and what they have room for.
func spoil(f api.Fs) {
	for _, x := range f.Inodes {
		for _, a := range x.Attrs {
			b := a.Value[:cap(a.Value)]
			copy(b, bytes.Repeat([]byte{0xee}, len(b)))
		}
		b := x.Data[:cap(x.Data)]
		copy(b, bytes.Repeat([]byte{0xee}, len(b)))
		clear(x.Attrs[:cap(x.Attrs)])
		clear(x.Names[:cap(x.Names)])
		clear(x.Nums[:cap(x.Nums)])
	}
	clear(f.Inodes[:cap(f.Inodes)])
}

// Answers are the caller's own: what is done to one changes neither what was handed in nor another answer, and the other way round.
func TestAnswersAreNewMemory(t *testing.T) {
	wrong := with(small(), func(f *api.Fs) { f.Next = 0 })
	for _, f := range []api.Fs{small(), wrong} {
		for _, o := range everyOp() {
			in, want := roomy(f), said(f, o.as)
			first, second := o.do(in).fs, o.do(in).fs
			spoil(first)
			if !reflect.DeepEqual(bare(in), bare(f)) {
				t.Errorf("%s: what was handed in changes with its answer", o.name)
			}
			if !reflect.DeepEqual(bare(second), want.fs) {
				t.Errorf("%s: an answer changes with another one", o.name)
			}
			spoil(in)
			if !reflect.DeepEqual(bare(second), want.fs) {
				t.Errorf("%s: an answer changes with what was handed in", o.name)
			}
		}
	}
	x := api.Inode{Num: 7, Data: []byte("new"), Attrs: []api.Attr{{Name: "z", Value: []byte("y")}}}
	g, _ := plain.Set(small(), x)
	was := bare(g)
	spoil(api.Fs{Inodes: []api.Inode{x}})
	if !reflect.DeepEqual(bare(g), was) {
		t.Error("an answer changes with the inode that was handed in")
	}
}

// No two lists of one answer share memory, even if those that were handed in do.
func TestListsOfAnAnswerAreApart(t *testing.T) {
	shared := []byte("shared")
	f := small()
	for i := range f.Inodes {
		x := &f.Inodes[i]
		x.Attrs = []api.Attr{{Name: "a", Value: shared}, {Name: "b", Value: shared}}
		if x.Kind == api.File {
			x.Data = shared
		}
	}
	for _, o := range everyOp() {
		g := o.do(f).fs
		want := said(f, o.as).fs
		for i := range g.Inodes {
			x := &g.Inodes[i]
			if x.Kind == api.File {
				was := len(x.Data)
				x.Data = append(x.Data, "more"...)[:was]
				clear(x.Data)
				copy(want.Inodes[i].Data, x.Data)
			}
			_, _ = append(x.Names, "z"), append(x.Nums, 7)
			for j := range x.Attrs {
				_ = append(x.Attrs[j].Value, 1, 2, 3, 4)
				clear(x.Attrs[j].Value[:1+j%2])
				clear(want.Inodes[i].Attrs[j].Value[:1+j%2])
			}
		}
		if !reflect.DeepEqual(bare(g), want) {
			t.Errorf("%s: what is done to a list reaches another: %s", o.name, told(g))
		}
	}
}

// Answers hang on nothing but the arguments, whoever else calls, and whatever was refused ahead.
func TestCallsKnowNothingOfOneAnother(t *testing.T) {
	f, wrong := small(), inode(small(), 7, func(x *api.Inode) { x.Links = 1 })
	var all sync.WaitGroup
	for range 8 {
		all.Go(func() {
			for range 10 {
				for _, o := range everyOp() {
					o.asSaid(t, wrong)
					o.asSaid(t, f)
				}
				seen(t, f, numbers(0, 10), []string{"etc", "none"})
			}
		})
	}
	all.Wait()
}

// Long rows are refused as short ones are.
func TestLongRows(t *testing.T) {
	n := 1 << 20
	l := []api.Fs{{Inodes: make([]api.Inode, n), Next: 2}}
	for _, change := range []func(*api.Inode){
		func(x *api.Inode) { x.Attrs = make([]api.Attr, n) },
		func(x *api.Inode) { x.Attrs = []api.Attr{{Name: "a", Value: make([]byte, n)}} },
		func(x *api.Inode) { x.Names, x.Nums = make([]string, n), make([]int, n) },
		func(x *api.Inode) { x.Nums = make([]int, n) },
		func(x *api.Inode) { x.Data = make([]byte, n) },
		func(x *api.Inode) { x.Target = strings.Repeat("x", n) },
	} {
		for _, num := range []int{1, 7, 9} {
			l = append(l, inode(small(), num, change))
		}
	}
	for _, f := range l {
		if plain.Check(f) {
			t.Errorf("Check(%s): true", told(f))
		}
		if g, num, e := plain.Make(f, api.File, 0, ""); len(g.Inodes) != len(f.Inodes) || num != 0 || e != api.ErrArg {
			t.Errorf("Make(%s): %d, %d", told(f), num, e)
		}
	}
}
