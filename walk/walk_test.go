package walk_test

import (
	"fmt"
	"maps"
	"math"
	"math/rand"
	"reflect"
	"slices"
	"strings"
	"sync"
	"testing"

	"palimpsest/api"
	"palimpsest/plain"
	"palimpsest/walk"
)

// told answers what something is, as far as a line shows it.
func told(x any) string {
	s := fmt.Sprintf("%+v", x)
	if len(s) > 400 {
		s = s[:400] + " .."
	}
	return strings.ToValidUTF8(s, "?")
}

// at answers a place: a directory, a name in it, who has it.
func at(dir int, s string, num int) api.Place { return api.Place{Dir: dir, Name: s, Num: num} }

// itself answers the place of a directory that no name led to.
func itself(num int) api.Place { return at(num, "", num) }

// must answers a place that must be a directory.
func must(p api.Place) api.Place {
	p.MustDir = true
	return p
}

// leads asks that a path leads to a place.
func leads(t *testing.T, f api.Fs, path string, follow bool, want api.Place) {
	t.Helper()
	if p, e := walk.Walk(f, path, follow); p != want || e != api.OK {
		t.Errorf("Walk(%.60q, %v): %s, %d, not %s", path, follow, told(p), e, told(want))
	}
}

// both asks that a path leads to a place, whether what is in the last place is followed or not.
func both(t *testing.T, f api.Fs, path string, want api.Place) {
	t.Helper()
	leads(t, f, path, true, want)
	leads(t, f, path, false, want)
}

// fails asks that a path leads nowhere.
func fails(t *testing.T, f api.Fs, path string, follow bool, want api.Errno) {
	t.Helper()
	if p, e := walk.Walk(f, path, follow); p != (api.Place{}) || e != want {
		t.Errorf("Walk(%.60q, %v): %s, %d, not %d", path, follow, told(p), e, want)
	}
}

// bothFail asks that a path leads nowhere, whether what is in the last place is followed or not.
func bothFail(t *testing.T, f api.Fs, path string, want api.Errno) {
	t.Helper()
	fails(t, f, path, true, want)
	fails(t, f, path, false, want)
}

// asSaid asks that Walk answers what this test says, both ways, and counts the errors.
func asSaid(t *testing.T, f api.Fs, w world, path string, count map[api.Errno]int) {
	t.Helper()
	for _, follow := range []bool{true, false} {
		p, e := walk.Walk(f, path, follow)
		if want, wrong := w.walk(path, follow); p != want || e != wrong {
			t.Fatalf("Walk(%s, %.200q, %v): %s, %d, not %s, %d", told(f), path, follow, told(p), e, told(want), wrong)
		}
		count[e]++
	}
}

// right answers the file system of lines, which must be one that may be.
func right(t testing.TB, lines ...string) api.Fs {
	t.Helper()
	f := grown(lines...)
	if !plain.Check(f) {
		t.Fatalf("this test's own file system may not be: %s", told(f))
	}
	return f
}

// small answers a file system with some of all: directories with lesser numbers than what they are in, files and links, of several names too, and what cannot be reached.
func small(t testing.TB) api.Fs {
	t.Helper()
	return right(t,
		"8 /a/", "3 /a/b/", "20 /a/b/c/", "4 /a/b/f", "4 /g", "4 /a/f", "17 /e/",
		"5 /a/up -> ..", "6 /a/here -> .", "7 /a/top -> /", "9 /a/in -> b/c", "10 /a/slash -> b/", "10 /slash -> b/",
		"11 /file -> a/f", "12 /filed -> a/f/", "13 /gone -> a/none", "14 /lost -> none/none", "15 /deep -> /a/in/../../b/f",
		"16 /again -> gone/", "18 /dot -> a/.", "19 /a/abs -> //e",
		"30 ~/", "31 ~/a/", "32 ~/a/x", "33 -", "34 - -> ~",
	)
}

// P18.1.

// The example of the chapter, and what else that link leads to.
func TestExample(t *testing.T) {
	f := right(t, "2 /a/", "3 /a/l -> ..")
	both(t, f, "/a/l/a", at(1, "a", 2))
	both(t, f, "/a/l/a/l/a", at(1, "a", 2))
	leads(t, f, "/a/l", false, at(2, "l", 3))
	leads(t, f, "/a/l", true, itself(1))
	both(t, f, "/a/l/", must(itself(1)))
}

// Names lead on from the first directory, each in the one that the name ahead led to.
func TestNames(t *testing.T) {
	f := small(t)
	both(t, f, "/a", at(1, "a", 8))
	both(t, f, "/a/b", at(8, "b", 3))
	both(t, f, "/a/b/c", at(3, "c", 20))
	both(t, f, "/a/b/f", at(3, "f", 4))
	both(t, f, "/g", at(1, "g", 4))
	both(t, f, "/a/f", at(8, "f", 4))
	both(t, f, "//a/./b//.///c", at(3, "c", 20))
}

// Without names, and behind "..", the place is the directory itself.
func TestUp(t *testing.T) {
	f := small(t)
	both(t, f, "/", must(itself(1)))
	both(t, f, "/.", must(itself(1)))
	both(t, f, "///./", must(itself(1)))
	both(t, f, "/..", itself(1))
	both(t, f, "/../..", itself(1))
	both(t, f, "/../../", must(itself(1)))
	both(t, f, "/../a", at(1, "a", 8))
	both(t, f, "/a/..", itself(1))
	both(t, f, "/a/b/..", itself(8))
	both(t, f, "/a/b/../", must(itself(8)))
	both(t, f, "/a/b/../.", must(itself(8)))
	both(t, f, "/a/b/c/../..", itself(8))
	both(t, f, "/a/b/c/../../b/f", at(3, "f", 4))
	both(t, f, "/a/b/c/../../../../../e", at(1, "e", 17))
	both(t, f, "/a/../none", at(1, "none", 0))
}

// A name that nobody has is a place, if it is the last one of all.
func TestNobodyHasIt(t *testing.T) {
	f := small(t)
	for _, s := range []string{"none", "A", "aa", "b", "~", "...", "\u00e9", strings.Repeat("x", 100)} {
		both(t, f, "/"+s, at(1, s, 0))
		both(t, f, "/a/b/c/"+s, at(20, s, 0))
		both(t, f, "/e/"+s+"/", must(at(17, s, 0)))
		both(t, f, "/e/"+s+"/.", must(at(17, s, 0)))
		bothFail(t, f, "/"+s+"/a", api.ErrNoEnt)
		bothFail(t, f, "/e/"+s+"/"+s, api.ErrNoEnt)
		bothFail(t, f, "/e/"+s+"/..", api.ErrNoEnt)
		bothFail(t, f, "/e/"+s+"/../", api.ErrNoEnt)
	}
}

// Who is no directory has no names behind, and no stroke.
func TestNoDirectory(t *testing.T) {
	f := small(t)
	for _, file := range []string{"/g", "/a/f", "/a/b/f", "/file", "/deep", "/a/in/../f"} {
		for _, behind := range []string{"/x", "/a", "/..", "/../a", "/none/none", "/x/", "/./x", "/", "//", "/."} {
			bothFail(t, f, file+behind, api.ErrNotDir)
		}
	}
}

// A link is followed, if names stand behind, or it was asked for, or it must be a directory.
func TestLinksAreFollowed(t *testing.T) {
	f := small(t)
	for _, c := range []struct {
		path string
		own  api.Place // not followed
		to   api.Place // followed
	}{
		{"/a/up", at(8, "up", 5), itself(1)},
		{"/a/in", at(8, "in", 9), at(3, "c", 20)},
		{"/a/slash", at(8, "slash", 10), must(at(8, "b", 3))},
		{"/slash", at(1, "slash", 10), must(at(1, "b", 0))},
		{"/file", at(1, "file", 11), at(8, "f", 4)},
		{"/gone", at(1, "gone", 13), at(8, "none", 0)},
		{"/again", at(1, "again", 16), must(at(8, "none", 0))},
		{"/deep", at(1, "deep", 15), at(3, "f", 4)},
		{"/dot", at(1, "dot", 18), must(at(1, "a", 8))},
		{"/a/abs", at(8, "abs", 19), at(1, "e", 17)},
		{"/a/up/a/b/../in", at(8, "in", 9), at(3, "c", 20)},
	} {
		leads(t, f, c.path, false, c.own)
		leads(t, f, c.path, true, c.to)
		if c.to.Num != 4 {
			both(t, f, c.path+"/", must(c.to))
			both(t, f, c.path+"/.", must(c.to))
		}
	}
	both(t, f, "/a/up/e", at(1, "e", 17))
	both(t, f, "/a/in/none", at(20, "none", 0))
	both(t, f, "/a/in/..", itself(3))
	both(t, f, "/a/in/../f", at(3, "f", 4))
	both(t, f, "/a/abs/../g", at(1, "g", 4))
	both(t, f, "/dot/in/../../f", at(8, "f", 4))
	bothFail(t, f, "/slash/f", api.ErrNoEnt)
	bothFail(t, f, "/gone/x", api.ErrNoEnt)
	bothFail(t, f, "/gone/..", api.ErrNoEnt)
	bothFail(t, f, "/lost/", api.ErrNoEnt)
	fails(t, f, "/lost", true, api.ErrNoEnt)
	leads(t, f, "/lost", false, at(1, "lost", 14))
}

// A target that ends with a stroke must lead to a directory where it stands in the last place, and just there.
func TestTargetsThatMustBeDirectories(t *testing.T) {
	f := small(t)
	fails(t, f, "/filed", true, api.ErrNotDir)
	leads(t, f, "/filed", false, at(1, "filed", 12))
	bothFail(t, f, "/filed/", api.ErrNotDir)
	bothFail(t, f, "/filed/x", api.ErrNotDir)
	both(t, f, "/a/slash/f", at(3, "f", 4))
	both(t, f, "/a/slash/none", at(3, "none", 0))
	both(t, f, "/dot/f", at(8, "f", 4))
	f = right(t, "2 /a/", "3 /f", "4 /in -> a/../f", "5 /last -> ahead/f", "6 /ahead -> a/..//", "7 /two -> one", "8 /one -> f/.", "9 /three -> four/", "10 /four -> f")
	leads(t, f, "/in", true, at(1, "f", 3))
	leads(t, f, "/last", true, at(1, "f", 3))
	fails(t, f, "/two", true, api.ErrNotDir)
	fails(t, f, "/one", true, api.ErrNotDir)
	fails(t, f, "/three", true, api.ErrNotDir)
	leads(t, f, "/four", true, at(1, "f", 3))
	leads(t, f, "/two", false, at(1, "two", 7))
}

// A target without names leaves the last name that was gone along as it is, but that of the first directory.
func TestTargetsWithoutNames(t *testing.T) {
	f := small(t)
	leads(t, f, "/a/here", true, must(at(1, "a", 8)))
	leads(t, f, "/a/here", false, at(8, "here", 6))
	both(t, f, "/a/here/", must(at(1, "a", 8)))
	both(t, f, "/a/here/b", at(8, "b", 3))
	both(t, f, "/a/here/here/../e", at(1, "e", 17))
	leads(t, f, "/a/b/../here", true, must(itself(8)))
	leads(t, f, "/a/up/a/here", true, must(at(1, "a", 8)))
	leads(t, f, "/a/top", true, must(itself(1)))
	leads(t, f, "/a/top", false, at(8, "top", 7))
	both(t, f, "/a/top/", must(itself(1)))
	both(t, f, "/a/top/a/b", at(8, "b", 3))
	leads(t, right(t, "2 /l -> .", "3 /m -> l"), "/m", true, must(itself(1)))
	leads(t, right(t, "2 /l -> ./././", "3 /m -> /l"), "/m", true, must(itself(1)))
}

// row answers n links, each of which leads to the next one, the last one to a target.
func row(n int, target string) []string {
	var l []string
	for i := range n - 1 {
		l = append(l, fmt.Sprintf("%d /l%d -> l%d", 10+i, i, i+1))
	}
	return append(l, fmt.Sprintf("%d /l%d -> %s", 9+n, n-1, target))
}

// Eight links are followed, the ninth is not.
func TestLoops(t *testing.T) {
	for n := 1; n <= 12; n++ {
		f := right(t, append(row(n, "e"), "2 /e/")...)
		leads(t, f, "/l0", false, at(1, "l0", 10))
		if n <= 8 {
			leads(t, f, "/l0", true, at(1, "e", 2))
			both(t, f, "/l0/", must(at(1, "e", 2)))
			both(t, f, "/l0/x", at(2, "x", 0))
			continue
		}
		fails(t, f, "/l0", true, api.ErrLoop)
		bothFail(t, f, "/l0/", api.ErrLoop)
		bothFail(t, f, "/l0/x", api.ErrLoop)
	}
	for _, target := range []string{"l", "/l", "l/", "./l", "m", "../m/x"} {
		f := right(t, "2 /l -> "+target, "3 /m -> l")
		leads(t, f, "/l", false, at(1, "l", 2))
		fails(t, f, "/l", true, api.ErrLoop)
		bothFail(t, f, "/l/", api.ErrLoop)
		bothFail(t, f, "/l/..", api.ErrLoop)
	}
}

// Those that were followed are counted on the whole way, one that is met again too.
func TestLoopsAreCountedOnTheWholeWay(t *testing.T) {
	for _, target := range []string{".", "/", "..", "l2/../.."} {
		f := right(t, "2 /l -> "+target, "3 /l2/", "4 /f")
		to, e := open(f).walk("/l", true)
		if e != api.OK {
			t.Fatal(e)
		}
		for n := 1; n <= 20; n++ {
			path := strings.Repeat("/l", n)
			if n <= 8 {
				leads(t, f, path, true, to)
				both(t, f, path+"/f", at(1, "f", 4))
			} else {
				fails(t, f, path, true, api.ErrLoop)
				bothFail(t, f, path+"/f", api.ErrLoop)
			}
			if n <= 9 {
				leads(t, f, path, false, at(1, "l", 2))
			} else {
				fails(t, f, path, false, api.ErrLoop)
			}
		}
	}
}

// A name on its way to a ninth link is told ahead of it; the ninth's own target is not looked at.
func TestWhatIsAheadOfTheNinth(t *testing.T) {
	f := right(t, "2 /l -> .", "3 /bad -> \xff", "4 /f", "5 /none -> x/l")
	eight := strings.Repeat("/l", 8)
	for behind, want := range map[string]api.Errno{"/bad": 209, "/bad/x": 209, "/x/l": 201, "/f/l": 203, "/l": 209, "/none": 209} {
		fails(t, f, eight+behind, true, want)
	}
	for behind, want := range map[string]api.Errno{"/bad": 206, "/bad/x": 206, "/x/l": 201, "/f/l": 203, "/l/l": 209, "/none": 201} {
		fails(t, f, eight[2:]+behind, true, want)
	}
	leads(t, f, eight+"/bad", false, at(1, "bad", 3))
}

// A path that is none answers Split's error, wherever its names would lead.
func TestWrongPaths(t *testing.T) {
	f := small(t)
	long := strings.Repeat("x", 101)
	for path, want := range map[string]api.Errno{
		"": 206, "a": 206, ".": 206, "..": 206, "a/b": 206, " /a": 206, "\xff": 206,
		"/" + long: 208, "/a/" + long: 208, "/none/none/" + long: 208, "/g/x/" + long: 208, "/lost/x/" + long + "/..": 208,
		"/\xff": 206, "/a/b\x00": 206, "/none/none/\xff": 206, "/g/\xff/x": 206, "/lost/\xff": 206,
		"/\xff/" + long: 206, "/" + long + "/\xff": 208,
		strings.Repeat("/", 1001): 208, strings.Repeat("x", 1001): 208, strings.Repeat("/a", 501): 208, "/" + strings.Repeat("\xff", 2000): 208,
	} {
		bothFail(t, f, path, want)
	}
	both(t, f, strings.Repeat("/", 1000), must(itself(1)))
	both(t, f, strings.Repeat("/", 999)+"a", at(1, "a", 8))
	both(t, f, strings.Repeat("/a/..", 200), itself(1))
}

// A target that is no path answers Split's error where it is followed, wherever its names would lead.
func TestWrongTargets(t *testing.T) {
	long := strings.Repeat("x", 101)
	for target, want := range map[string]api.Errno{
		long: 208, "/" + long: 208, "e/" + long: 208, "none/none/" + long: 208, "f/x/" + long: 208, "l/l/" + long: 208,
		"\xff": 206, "/\xff": 206, "none/none/\xff": 206, "f/x/\xff/": 206,
		strings.Repeat("./", 500): 208, strings.Repeat("x", 1000): 208,
	} {
		f := right(t, "2 /e/", "3 /f", "4 /l -> "+target)
		leads(t, f, "/l", false, at(1, "l", 4))
		fails(t, f, "/l", true, want)
		bothFail(t, f, "/l/", want)
		bothFail(t, f, "/l/none/none", want)
		bothFail(t, f, "/e/../l/..", want)
	}
	for _, target := range []string{strings.Repeat("./", 499) + "e", "/" + strings.Repeat("./", 499) + "e", "e", strings.Repeat("../", 332) + "e"} {
		f := right(t, "2 /e/", "4 /l -> "+target)
		leads(t, f, "/l", true, at(1, "e", 2))
		both(t, f, "/l/x", at(2, "x", 0))
	}
	f := right(t, "2 /l -> "+strings.Repeat("x", 100))
	leads(t, f, "/l", true, at(1, strings.Repeat("x", 100), 0))
	f = right(t, "2 /l -> "+strings.Repeat("/", 1000))
	leads(t, f, "/l", true, must(itself(1)))
}

// wrong answers file systems that may not be. Which may not, the tests of layer 17 ask more closely.
func wrong(t testing.TB) []api.Fs {
	l := []api.Fs{{}, {Next: 2}, {Next: 2, Inodes: make([]api.Inode, 1)}, {Next: 2, Inodes: make([]api.Inode, 1<<16)}}
	for _, change := range []func(*api.Fs){
		func(f *api.Fs) { f.Next = 1 },
		func(f *api.Fs) { f.Next = 514 },
		func(f *api.Fs) { f.Inodes = f.Inodes[1:] },
		func(f *api.Fs) { f.Inodes[0].Num = 2 },
		func(f *api.Fs) { f.Inodes[0].Kind = api.File },
		func(f *api.Fs) { f.Inodes[1].Links = 2 },
		func(f *api.Fs) { f.Inodes[1].Num = math.MinInt },
		func(f *api.Fs) { f.Inodes[1].Names[0] = "." },
		func(f *api.Fs) { f.Inodes[1].Nums = append(f.Inodes[1].Nums, 1) },
		func(f *api.Fs) { f.Inodes[1].Nums[0] = 3 }, // within itself
		func(f *api.Fs) { f.Inodes[0].Nums[0] = 99 },
		func(f *api.Fs) { f.Inodes = append(f.Inodes, f.Inodes[0]) },
		func(f *api.Fs) { slices.Reverse(f.Inodes) },
	} {
		f := bare(small(t))
		change(&f)
		l = append(l, f)
	}
	return l
}

// Of a file system that may not be all answers are zeros, beside ErrArg, whatever the path.
func TestWrongFileSystems(t *testing.T) {
	for _, f := range wrong(t) {
		if plain.Check(f) {
			t.Fatalf("%s may be", told(f))
		}
		for _, path := range []string{"/", "/a", "/none/x", "", "a", "/\xff", strings.Repeat("/", 1001)} {
			bothFail(t, f, path, api.ErrArg)
		}
		for _, num := range []int{-1, 0, 1, 3, 4, 8, 20, 99} {
			if walk.Within(f, num, num) || walk.Within(f, num, 1) || walk.Path(f, num) != "" {
				t.Errorf("%s: %d is within", told(f), num)
			}
		}
	}
}

// P18.2, and all of P18.1 once more: each path of up to four names answers what this test says.
func TestAllShortPaths(t *testing.T) {
	f := small(t)
	w, count := open(f), map[api.Errno]int{}
	names := []string{"..", "a", "b", "f", "none", "up", "here", "top", "in", "slash", "file", "again"}
	paths := []string{""}
	for range 4 {
		var more []string
		for _, p := range paths {
			for _, s := range names {
				more = append(more, p+"/"+s)
			}
		}
		for _, p := range more {
			asSaid(t, f, w, p, count)
			asSaid(t, f, w, p+"/", count)
		}
		paths = more
	}
	if count[api.OK] < 1000 || count[api.ErrNoEnt] < 1000 || count[api.ErrNotDir] < 1000 {
		t.Errorf("this test is worth little: %v", count)
	}
}

// pick answers one of a row.
func pick[T any](chance *rand.Rand, l ...T) T { return l[chance.Intn(len(l))] }

// anyPath answers some names with strokes between.
func anyPath(chance *rand.Rand, n int) string {
	var l []string
	for range 1 + chance.Intn(n) {
		l = append(l, pick(chance, "a", "b", "c", "d", "e", "f", "a", "b", "c", "d", "..", "..", ".", "g"))
	}
	return pick(chance, "", "", "/") + strings.Join(l, "/") + pick(chance, "", "", "", "/", "/.")
}

// anyFs answers a file system that chance made, with many links in it.
func anyFs(t testing.TB, chance *rand.Rand) api.Fs {
	dirs, taken := []string{"", "", "~"}, map[string]bool{}
	nums := chance.Perm(100)
	num := func() int {
		n := nums[0] + 2
		nums = nums[1:]
		return n
	}
	lines := []string{fmt.Sprintf("%d ~/", num())}
	for range 5 + chance.Intn(35) {
		path := pick(chance, dirs...) + "/" + pick(chance, "a", "b", "c", "d", "e", "f")
		if taken[path] {
			continue
		}
		taken[path] = true
		switch chance.Intn(5) {
		case 0, 1:
			lines = append(lines, fmt.Sprintf("%d %s/", num(), path))
			dirs = append(dirs, path)
		case 2:
			lines = append(lines, fmt.Sprintf("%d %s", num(), path))
		default:
			lines = append(lines, fmt.Sprintf("%d %s -> %s", num(), path, anyPath(chance, 3)))
		}
	}
	return right(t, lines...)
}

// Whatever paths and file systems chance makes: all is answered as this test says.
func TestAnything(t *testing.T) {
	chance, count := rand.New(rand.NewSource(18)), map[api.Errno]int{}
	for range 400 {
		f := anyFs(t, chance)
		w := open(f)
		for range 150 {
			asSaid(t, f, w, "/"+anyPath(chance, 8), count)
		}
		askDirectories(t, f, w, slices.Sorted(maps.Keys(w)))
	}
	for _, e := range []api.Errno{api.OK, api.ErrNoEnt, api.ErrNotDir, api.ErrLoop} {
		if count[e] < 500 {
			t.Errorf("%d was answered %d times: this test is worth little", e, count[e])
		}
	}
}

// P18.3 and P18.4.

// askDirectories asks Within and Path of some numbers, and that a Path leads to its directory.
func askDirectories(t *testing.T, f api.Fs, w world, nums []int) {
	t.Helper()
	for _, dir := range nums {
		below := w.below(dir)
		for _, num := range nums {
			want := w[dir].kind == api.Dir && slices.Contains(below, num)
			if walk.Within(f, num, dir) != want {
				t.Fatalf("Within(%s, %d, %d): not %v", told(f), num, dir, want)
			}
		}
		path := walk.Path(f, dir)
		if path != w.path(dir) {
			t.Fatalf("Path(%s, %d): %.60q, not %.60q", told(f), dir, path, w.path(dir))
		}
		if path == "" {
			continue
		}
		for _, follow := range []bool{true, false} {
			if p, e := walk.Walk(f, path, follow); p.Num != dir || p.MustDir != (dir == 1) || e != api.OK {
				t.Fatalf("Path(%s, %d) leads to %s, %d", told(f), dir, told(p), e)
			}
		}
	}
}

// odd answers numbers that no inode has.
func odd() []int { return []int{0, -1, 2, 512, 513, 1024, 1025, 1 << 32, math.MaxInt, math.MinInt} }

func TestDirectories(t *testing.T) {
	f := small(t)
	for num, path := range map[int]string{1: "/", 8: "/a", 3: "/a/b", 20: "/a/b/c", 17: "/e"} {
		if p := walk.Path(f, num); p != path {
			t.Errorf("Path(%d): %q, not %q", num, p, path)
		}
	}
	// Files, links, and what is none; directories that cannot be reached.
	for _, num := range append(odd(), 4, 5, 33, 34, 30, 31) {
		if p := walk.Path(f, num); p != "" {
			t.Errorf("Path(%d): %q", num, p)
		}
	}
	for _, pair := range [][2]int{{1, 1}, {8, 1}, {20, 1}, {20, 8}, {20, 3}, {20, 20}, {30, 30}, {31, 30}, {31, 31}} {
		if !walk.Within(f, pair[0], pair[1]) {
			t.Errorf("Within(%d, %d): false", pair[0], pair[1])
		}
	}
	for _, pair := range [][2]int{{1, 8}, {8, 3}, {8, 17}, {17, 8}, {30, 1}, {31, 1}, {30, 31}, {1, 30}, {4, 4}, {4, 1}, {4, 8}, {5, 5}, {5, 8}, {8, 4}, {32, 31}, {33, 33}, {33, 1}, {1, 33}} {
		if walk.Within(f, pair[0], pair[1]) {
			t.Errorf("Within(%d, %d): true", pair[0], pair[1])
		}
	}
	for _, num := range odd() {
		if walk.Within(f, num, num) || walk.Within(f, num, 1) || walk.Within(f, 1, num) || walk.Within(f, 31, num) {
			t.Errorf("%d is within, or has something", num)
		}
	}
	askDirectories(t, f, open(f), append(odd(), slices.Sorted(maps.Keys(open(f)))...))
}

// chain answers n directories, each but the first one within the one ahead, by a name.
func chain(t testing.TB, n int, s string, num func(int) int) api.Fs {
	var l []string
	for i := 1; i < n; i++ {
		l = append(l, fmt.Sprintf("%d %s/", num(i), strings.Repeat("/"+s, i)))
	}
	return right(t, l...)
}

// A directory may stand in as many others as there may be inodes; its Path may be longer than paths may be.
func TestDeepDirectories(t *testing.T) {
	rising := func(i int) int { return i + 1 }
	for _, num := range []func(int) int{rising, func(i int) int { return 1024 - i }} {
		f := chain(t, 512, "d", num)
		askDirectories(t, f, open(f), []int{1, num(1), num(2), num(200), num(499), num(500)})
		for _, i := range []int{501, 511} {
			path := strings.Repeat("/d", i)
			if walk.Path(f, num(i)) != path || !walk.Within(f, num(i), num(1)) || walk.Within(f, num(1), num(i)) {
				t.Errorf("%d: %q", i, walk.Path(f, num(i)))
			}
			bothFail(t, f, path, api.ErrNameLong)
		}
		both(t, f, strings.Repeat("/d", 250)+strings.Repeat("/..", 166), itself(num(84)))
	}
	f := chain(t, 512, strings.Repeat("n", 100), rising)
	if p := walk.Path(f, 512); p != strings.Repeat("/"+strings.Repeat("n", 100), 511) {
		t.Errorf("%d bytes", len(p))
	}
}

// Links may lead further down, and back up, than one path does.
func TestLongWays(t *testing.T) {
	deep := strings.Repeat("/d", 400)
	lines := []string{"600 /wide -> " + strings.Repeat("d/../", 199) + "d/..", "601 /down -> " + deep[1:]}
	for i := 1; i <= 500; i++ {
		lines = append(lines, fmt.Sprintf("%d %s/", i+1, strings.Repeat("/d", i)))
	}
	lines = append(lines, "602 "+deep+"/up -> "+strings.Repeat("../", 333), "603 "+deep+"/on -> "+strings.Repeat("d/", 100))
	f := right(t, lines...)
	w, count := open(f), map[api.Errno]int{}
	both(t, f, "/down/d/none", at(402, "none", 0))
	both(t, f, "/down/on/..", itself(500))
	leads(t, f, "/down/on", true, must(at(500, "d", 501)))
	leads(t, f, "/down/up", true, must(itself(68)))
	leads(t, f, strings.Repeat("/wide", 8), true, itself(1))
	for _, path := range []string{
		strings.Repeat("/wide", 8) + strings.Repeat("/d", 480), strings.Repeat("/wide", 9) + "/none", "/wide/down/up/../d/wide", "/wide/wide/down/on/none",
		"/down/on/../../../up", "/down/up" + strings.Repeat("/..", 80) + "/down/up", deep + "/on/none/x", deep + "/up/", "/down/down",
	} {
		asSaid(t, f, w, path, count)
	}
}

// The rules that hold everywhere.

// askAll asks each call, with what it was handed.
func askAll(t *testing.T, f api.Fs) {
	t.Helper()
	w := open(small(t))
	for _, path := range []string{"/", "/a/b/f", "/a/slash", "/deep", "/none/x", "/file/", "/\xff", "/again", "/behind", "/a/behind"} {
		asSaid(t, f, w, path, map[api.Errno]int{})
	}
	askDirectories(t, f, w, []int{0, 1, 3, 4, 8, 20, 30, 31, 1024, 1025})
}

// Empty lists are as none.
func TestEmptyListsAreAsNone(t *testing.T) {
	f := small(t)
	for i := range f.Inodes {
		x := &f.Inodes[i]
		x.Data, x.Names, x.Nums, x.Attrs = append([]byte{}, x.Data...), append([]string{}, x.Names...), append([]int{}, x.Nums...), []api.Attr{}
	}
	askAll(t, f)
}

// Nothing that is handed in is changed, and the room behind the end of a row is nobody's.
func TestNothingIsChanged(t *testing.T) {
	f := small(t)
	f.Inodes = append(f.Inodes, api.Inode{Num: 1024, Kind: api.Dir, Links: 1}, api.Inode{})[:len(f.Inodes)]
	for i := range f.Inodes {
		x := &f.Inodes[i]
		x.Names = append(x.Names, "behind", "")[:len(x.Names)]
		x.Nums = append(x.Nums, 1024, -1)[:len(x.Nums)]
	}
	whole := func() api.Fs {
		g := bare(api.Fs{Inodes: f.Inodes[:cap(f.Inodes)], Next: f.Next})
		for i, x := range f.Inodes {
			g.Inodes[i].Names, g.Inodes[i].Nums = list(x.Names[:cap(x.Names)]), list(x.Nums[:cap(x.Nums)])
		}
		return g
	}
	was := whole()
	askAll(t, f)
	if !reflect.DeepEqual(whole(), was) {
		t.Errorf("%s was changed to %s", told(was), told(whole()))
	}
}

// Answers hang on nothing but the arguments, whoever else calls.
func TestCallsKnowNothingOfOneAnother(t *testing.T) {
	f, other := small(t), right(t, "8 /a/", "3 /a/slash")
	answers := func() string {
		var out strings.Builder
		for _, g := range []api.Fs{f, other, {}} {
			for _, path := range []string{"/a/slash", "/a/in/..", "/lost/x", "/a" + strings.Repeat("/here", 9) + "/x", "a"} {
				p, e := walk.Walk(g, path, true)
				fmt.Fprintln(&out, p, e, walk.Within(g, 3, 8), walk.Path(g, 3))
			}
		}
		return out.String()
	}
	want := answers()
	var all sync.WaitGroup
	for range 8 {
		all.Go(func() {
			for range 100 {
				if got := answers(); got != want {
					t.Errorf("%s, not %s", got, want)
				}
			}
		})
	}
	all.Wait()
}
