package space_test

import (
	"fmt"
	"math"
	"math/rand"
	"slices"
	"strings"
	"sync"
	"testing"

	"palimpsest/api"
	"palimpsest/space"
)

// told answers what a failure tells of a row: not all of a long one.
func told(s string) string {
	const most = 64
	if len(s) > most {
		return fmt.Sprintf("%s... (%d slots)", s[:most], len(s))
	}
	return "'" + s + "'"
}

// takes holds Take against the words, and answers what it answered.
func takes(t *testing.T, s string, n int) (int, string, api.Errno) {
	t.Helper()
	at, l, e := space.Take(row(s), n)
	wantAt, want, f := takeByWords(s, n)
	if at != wantAt || text(l) != want || e != f {
		t.Fatalf("Take of %d in %s answers %d, %s, %d instead of %d, %s, %d", n, told(s), at, told(text(l)), e, wantAt, told(want), f)
	}
	return at, text(l), e
}

// gives holds Give against the words, and answers what it answered.
func gives(t *testing.T, s string, at, n int) (string, api.Errno) {
	t.Helper()
	l, e := space.Give(row(s), at, n)
	want, f := giveByWords(s, at, n)
	if text(l) != want || e != f {
		t.Fatalf("Give of %d from %d on in %s answers %s, %d instead of %s, %d", n, at, told(s), told(text(l)), e, told(want), f)
	}
	return text(l), e
}

// sets holds Set against the words, and answers what it answered.
func sets(t *testing.T, n int, taken []int) (string, api.Errno) {
	t.Helper()
	l, e := space.Set(n, taken)
	want, f := setByWords(n, taken)
	if text(l) != want || e != f {
		t.Fatalf("Set of %d with %d taken answers %s, %d instead of %s, %d", n, len(taken), told(text(l)), e, told(want), f)
	}
	return text(l), e
}

// counts holds Free and Longest against the words.
func counts(t *testing.T, s string) {
	t.Helper()
	if n := space.Free(row(s)); n != freeByWords(s) {
		t.Fatalf("Free of %s answers %d instead of %d", told(s), n, freeByWords(s))
	}
	if n := space.Longest(row(s)); n != longestByWords(s) {
		t.Fatalf("Longest of %s answers %d instead of %d", told(s), n, longestByWords(s))
	}
}

// some answers a row of n slots, of which about one in each so many is of the rarer kind, the same one each time.
func some(n, each int, rare, often string) string {
	r := rand.New(rand.NewSource(int64(n)<<20 + int64(each)))
	var b strings.Builder
	for range n {
		if r.Intn(each) == 0 {
			b.WriteString(rare)
		} else {
			b.WriteString(often)
		}
	}
	return b.String()
}

// long answers rows of up to as many slots as there may be.
func long() []string {
	var all []string
	for _, n := range []int{63, 64, 65, 255, 256, 1000, slots - 1, slots} {
		all = append(all, strings.Repeat(".", n), strings.Repeat("x", n))
		all = append(all, strings.Repeat(".", n-1)+"x", "x"+strings.Repeat(".", n-1), strings.Repeat("x", n-1)+".", "."+strings.Repeat("x", n-1))
		all = append(all, strings.Repeat(".x", n/2), strings.Repeat("x..", n/3), strings.Repeat(".", n/2)+"x"+strings.Repeat(".", n-n/2-1))
		for _, each := range []int{2, 3, 10, 100} {
			all = append(all, some(n, each, "x", "."), some(n, each, ".", "x"))
		}
	}
	return all
}

// longer answers rows that have more slots than there may be.
func longer() []string {
	var all []string
	for _, n := range []int{slots + 1, slots + 2, 5000, 2 * slots, 1 << 16} {
		all = append(all, strings.Repeat(".", n), strings.Repeat("x", n), some(n, 2, "x", "."), some(n, 50, "x", "."))
	}
	return all
}

// P10.1: Take

func TestTakeOfTheExample(t *testing.T) {
	at, l, e := space.Take([]bool{true, false, true, false, false}, 2)
	if at != 3 || !slices.Equal(l, []bool{true, false, true, true, true}) || e != api.OK {
		t.Errorf("Take of 2 answers %d, %v, %d", at, l, e)
	}
}

func TestTake(t *testing.T) {
	for _, c := range []struct {
		s    string
		n    int
		at   int
		want string
		e    api.Errno
	}{
		{".", 1, 0, "x", api.OK},
		{"..", 1, 0, "x.", api.OK},
		{"..", 2, 0, "xx", api.OK},
		{"x.", 1, 1, "xx", api.OK},
		{"x..", 1, 1, "xx.", api.OK},
		{".x..", 2, 2, ".xxx", api.OK}, // at the end
		{".x..x...", 3, 5, ".x..xxxx", api.OK},
		{"...x..", 2, 0, "xx.x..", api.OK}, // the least place, though another one is as long as asked
		{".x...x..", 2, 2, ".xxx.x..", api.OK},
		{"", 1, 0, "", api.ErrFull},
		{"x", 1, 0, "x", api.ErrFull},
		{".", 2, 0, ".", api.ErrFull},
		{"xxx", 1, 0, "xxx", api.ErrFull},
		{"..x..", 3, 0, "..x..", api.ErrFull}, // enough, but not in a row
		{".x.x.", 2, 0, ".x.x.", api.ErrFull},
		{"x..", 3, 0, "x..", api.ErrFull}, // what stands behind the end is no slot
		{"...", 4, 0, "...", api.ErrFull},
		{"..", 0, 0, "..", api.ErrArg},
		{".x", -1, 0, ".x", api.ErrArg},
		{"xx", 0, 0, "xx", api.ErrArg},
		{"", 0, 0, "", api.ErrArg},
	} {
		if at, l, e := takes(t, c.s, c.n); at != c.at || l != c.want || e != c.e {
			t.Errorf("Take of %d in %s answers %d, %s, %d", c.n, told(c.s), at, told(l), e)
		}
	}
}

func TestTakeInEachShortRow(t *testing.T) {
	for _, s := range short(11) {
		for n := -2; n <= len(s)+2; n++ {
			takes(t, s, n)
		}
	}
}

func TestTakeInLongRows(t *testing.T) {
	for _, s := range long() {
		for _, n := range []int{1, 2, 3, 4, 5, 7, 10, 31, 32, 33, 100, len(s) / 2, len(s)/2 + 1, len(s) - 2, len(s) - 1, len(s), len(s) + 1} {
			takes(t, s, n)
		}
	}
}

// A gap of n is found wherever it stands among shorter ones.
func TestTakeOfTheOnlyGap(t *testing.T) {
	for _, n := range []int{2, 3, 8, 64} {
		part := strings.Repeat(".", n-1) + "x"
		for before := range 20 {
			s := strings.Repeat(part, before) + strings.Repeat(".", n) + "x" + strings.Repeat(part, 20-before)
			if at, _, e := takes(t, s, n); at != before*n || e != api.OK {
				t.Errorf("Take of %d in %s answers %d, %d", n, told(s), at, e)
			}
		}
	}
}

func TestTakeOfFarNumbers(t *testing.T) {
	for _, s := range []string{"", ".", "x", "..x.", strings.Repeat(".", slots)} {
		for _, n := range far() {
			takes(t, s, n)
		}
	}
}

// P10.1: Give

func TestGive(t *testing.T) {
	for _, c := range []struct {
		s     string
		at, n int
		want  string
		e     api.Errno
	}{
		{"x", 0, 1, ".", api.OK},
		{"xxx", 0, 1, ".xx", api.OK},
		{"xxx", 1, 1, "x.x", api.OK},
		{"xxx", 2, 1, "xx.", api.OK},
		{"xxx", 1, 2, "x..", api.OK},
		{"xxx", 0, 3, "...", api.OK},
		{".xx.", 1, 2, "....", api.OK},
		{".xx.", 0, 2, ".xx.", api.ErrArg}, // the first one is free
		{".xx.", 2, 2, ".xx.", api.ErrArg}, // the last one is
		{"x.x", 0, 3, "x.x", api.ErrArg},   // one between
		{"...", 0, 1, "...", api.ErrArg},
		{"xxx", 1, 3, "xxx", api.ErrArg}, // past the end
		{"xxx", 3, 1, "xxx", api.ErrArg},
		{"xxx", 0, 4, "xxx", api.ErrArg},
		{"xxx", -1, 1, "xxx", api.ErrArg},
		{"xxx", -1, 2, "xxx", api.ErrArg},
		{"xxx", 0, 0, "xxx", api.ErrArg},
		{"xxx", 3, 0, "xxx", api.ErrArg},
		{"xxx", 1, -1, "xxx", api.ErrArg},
		{"xxx", 4, -1, "xxx", api.ErrArg},
		{"", 0, 0, "", api.ErrArg},
		{"", 0, 1, "", api.ErrArg},
	} {
		if l, e := gives(t, c.s, c.at, c.n); l != c.want || e != c.e {
			t.Errorf("Give of %d from %d on in %s answers %s, %d", c.n, c.at, told(c.s), told(l), e)
		}
	}
}

func TestGiveInEachShortRow(t *testing.T) {
	for _, s := range short(9) {
		for at := -2; at <= len(s)+2; at++ {
			for n := -2; n <= len(s)+2; n++ {
				gives(t, s, at, n)
			}
		}
	}
}

func TestGiveInLongRows(t *testing.T) {
	for _, s := range long() {
		for _, at := range []int{0, 1, 2, 31, 32, len(s) / 2, len(s) - 2, len(s) - 1, len(s)} {
			for _, n := range []int{1, 2, 3, len(s) / 2, len(s) - at - 1, len(s) - at, len(s) - at + 1, len(s)} {
				gives(t, s, at, n)
			}
		}
	}
}

func TestGiveOfFarNumbers(t *testing.T) {
	for _, s := range []string{"", "x", "xx.", strings.Repeat("x", slots)} {
		for _, x := range far() {
			for _, y := range append(far(), 0, 1, 2, slots-1, slots) {
				gives(t, s, x, y)
				gives(t, s, y, x)
			}
		}
	}
}

// P10.1: Set

func TestSet(t *testing.T) {
	for _, c := range []struct {
		n     int
		taken []int
		want  string
		e     api.Errno
	}{
		{0, nil, "", api.OK},
		{0, []int{}, "", api.OK},
		{1, nil, ".", api.OK},
		{1, []int{0}, "x", api.OK},
		{5, []int{0, 2}, "x.x..", api.OK},
		{5, []int{4, 0, 2}, "x.x.x", api.OK}, // in any order
		{3, []int{2, 1, 0}, "xxx", api.OK},
		{0, []int{0}, "", api.ErrArg},
		{3, []int{3}, "", api.ErrArg},
		{3, []int{-1}, "", api.ErrArg},
		{3, []int{0, 1, 3}, "", api.ErrArg},
		{3, []int{1, 1}, "", api.ErrArg},
		{3, []int{1, 0, 1}, "", api.ErrArg},
		{3, []int{0, 0, 0}, "", api.ErrArg},
		{3, []int{0, 1, 2, 3}, "", api.ErrArg},
		{-1, nil, "", api.ErrArg},
		{slots + 1, nil, "", api.ErrArg},
		{slots + 1, []int{0}, "", api.ErrArg},
	} {
		if l, e := sets(t, c.n, c.taken); l != c.want || e != c.e {
			t.Errorf("Set of %d, %v answers %s, %d", c.n, c.taken, told(l), e)
		}
	}
}

// Of each two and three places, within and without, alike or not.
func TestSetOfFewPlaces(t *testing.T) {
	for n := range 5 {
		for a := -1; a <= n+1; a++ {
			sets(t, n, []int{a})
			for b := -1; b <= n+1; b++ {
				sets(t, n, []int{a, b})
				for c := -1; c <= n+1; c++ {
					sets(t, n, []int{a, b, c})
				}
			}
		}
	}
}

func TestSetOfLongRows(t *testing.T) {
	for _, n := range []int{1, 2, 255, 256, 1000, slots - 1, slots} {
		all := rand.New(rand.NewSource(int64(n))).Perm(n)
		for _, taken := range [][]int{nil, all, all[:n/2], all[n/2:], {0}, {n - 1}} {
			if _, e := sets(t, n, taken); e != api.OK {
				t.Errorf("Set of %d, %d taken answers %d", n, len(taken), e)
			}
		}
		for _, wrong := range []int{n, n + 1, -1, all[0], all[n-1]} {
			if _, e := sets(t, n, append(slices.Clone(all), wrong)); e != api.ErrArg {
				t.Errorf("Set of %d, all taken and %d answers %d", n, wrong, e)
			}
		}
	}
}

func TestSetOfFarNumbers(t *testing.T) {
	for _, x := range far() {
		sets(t, x, nil)
		sets(t, x, []int{0, 1})
		sets(t, 3, []int{x})
		sets(t, 3, []int{0, x})
		sets(t, slots, []int{x, 0})
		sets(t, x, []int{x})
		sets(t, x, []int{x - 1})
	}
}

// More places than there are slots: one of them is none, or is twice there.
func TestSetOfTooManyPlaces(t *testing.T) {
	for _, taken := range [][]int{make([]int, 1<<20), slices.Repeat([]int{1, 2}, slots), slices.Repeat([]int{-1}, slots+1)} {
		if _, e := sets(t, slots, taken); e != api.ErrArg {
			t.Errorf("Set with %d taken answers %d", len(taken), e)
		}
	}
}

// P10.1: rows that are too long

func TestRowsThatAreTooLong(t *testing.T) {
	for _, s := range longer() {
		for _, n := range []int{-1, 0, 1, 2, slots, len(s), len(s) + 1, math.MaxInt} {
			at, l, e := space.Take(row(s), n)
			if at != 0 || text(l) != s || e != api.ErrArg {
				t.Fatalf("Take of %d in %d slots answers %d, %s, %d", n, len(s), at, told(text(l)), e)
			}
			for _, from := range []int{-1, 0, 1, slots - 1, slots, len(s) - 1, len(s)} {
				l, e := space.Give(row(s), from, n)
				if text(l) != s || e != api.ErrArg {
					t.Fatalf("Give of %d from %d on in %d slots answers %s, %d", n, from, len(s), told(text(l)), e)
				}
			}
		}
		if free, longest := space.Free(row(s)), space.Longest(row(s)); free != 0 || longest != 0 {
			t.Errorf("Free and Longest of %d slots answer %d, %d", len(s), free, longest)
		}
	}
}

// The longest row of all is none of these.
func TestTheLongestRow(t *testing.T) {
	free, taken := strings.Repeat(".", slots), strings.Repeat("x", slots)
	if at, l, e := takes(t, free, slots); at != 0 || l != taken || e != api.OK {
		t.Errorf("Take of all answers %d, %s, %d", at, told(l), e)
	}
	if l, e := gives(t, taken, 0, slots); l != free || e != api.OK {
		t.Errorf("Give of all answers %s, %d", told(l), e)
	}
	if l, e := sets(t, slots, []int{slots - 1}); l != free[1:]+"x" || e != api.OK {
		t.Errorf("Set of the last one answers %s, %d", told(l), e)
	}
	if n, m := space.Free(row(free)), space.Longest(row(free)); n != slots || m != slots {
		t.Errorf("Free and Longest answer %d, %d", n, m)
	}
}

// P10.2

func TestFreeAndLongest(t *testing.T) {
	for _, c := range []struct {
		s             string
		free, longest int
	}{
		{"", 0, 0},
		{".", 1, 1},
		{"x", 0, 0},
		{"..", 2, 2},
		{".x", 1, 1},
		{"x.", 1, 1},
		{"xx", 0, 0},
		{"x.x..", 3, 2},    // at the end
		{"...x..x.", 6, 3}, // at the beginning
		{".x...x..", 6, 3}, // between
		{".x.x.x.", 4, 1},
		{"..x..", 4, 2},
	} {
		if free, longest := space.Free(row(c.s)), space.Longest(row(c.s)); free != c.free || longest != c.longest {
			t.Errorf("Free and Longest of %s answer %d, %d", told(c.s), free, longest)
		}
	}
	if free, longest := space.Free(nil), space.Longest(nil); free != 0 || longest != 0 {
		t.Errorf("Free and Longest of nothing answer %d, %d", free, longest)
	}
}

func TestFreeAndLongestOfManyRows(t *testing.T) {
	for _, all := range [][]string{short(12), long(), longer()} {
		for _, s := range all {
			counts(t, s)
		}
	}
}

// P10.3

// What is given back is the row again; and a Take fails just where no gap is as long.
func takenAndGivenBack(t *testing.T, s string, n int) {
	t.Helper()
	at, taken, e := space.Take(row(s), n)
	if fails := space.Longest(row(s)) < n; fails != (e == api.ErrFull) || fails != (e != api.OK) {
		t.Fatalf("Take of %d in %s answers %d, and Longest %d", n, told(s), e, space.Longest(row(s)))
	}
	if e != api.OK {
		return
	}
	if free := space.Free(taken); free != space.Free(row(s))-n {
		t.Fatalf("behind Take of %d in %s %d are free", n, told(s), free)
	}
	back, e := space.Give(taken, at, n)
	if text(back) != s || e != api.OK {
		t.Fatalf("Give of what was taken, %d in %s, answers %s, %d", n, told(s), told(text(back)), e)
	}
}

func TestGiveOfWhatWasTaken(t *testing.T) {
	for _, s := range short(11) {
		for n := 1; n <= len(s)+1; n++ {
			takenAndGivenBack(t, s, n)
		}
	}
	for _, s := range long() {
		longest := space.Longest(row(s))
		for _, n := range []int{1, 2, 3, 50, longest - 1, longest, longest + 1, len(s), len(s) + 1, math.MaxInt} {
			if n > 0 {
				takenAndGivenBack(t, s, n)
			}
		}
	}
}

// A row that is taken from and given to, again and again, is always as the words have it; and all given back it is free.
func TestALongWay(t *testing.T) {
	for _, n := range []int{1, 5, 62, 500, slots} {
		r := rand.New(rand.NewSource(int64(n)))
		type piece struct{ at, n int }
		var held []piece
		s := strings.Repeat(".", n)
		for range 400 {
			if i := r.Intn(2 * (len(held) + 1)); i < len(held) {
				s, _ = gives(t, s, held[i].at, held[i].n)
				held = slices.Delete(held, i, i+1)
				continue
			}
			size := 1 + r.Intn(1+n/4)
			at, now, e := takes(t, s, size)
			if e == api.OK {
				held = append(held, piece{at, size})
			}
			s = now
			counts(t, s)
		}
		for _, p := range held {
			s, _ = gives(t, s, p.at, p.n)
		}
		if s != strings.Repeat(".", n) {
			t.Errorf("all given back of %d slots: %s", n, told(s))
		}
	}
}

// A row of which some are taken by Set is what so many Takes and Gives make.
func TestSetIsWhatIsTaken(t *testing.T) {
	for _, s := range append(short(8), some(slots, 3, "x", "."), some(1000, 10, ".", "x")) {
		l := row(strings.Repeat(".", len(s)))
		for range l {
			_, l, _ = space.Take(l, 1)
		}
		var taken []int
		for at, c := range []byte(s) {
			if c == 'x' {
				taken = append(taken, at)
			} else {
				l, _ = space.Give(l, at, 1)
			}
		}
		if set, e := space.Set(len(s), taken); !slices.Equal(set, l) || e != api.OK {
			t.Fatalf("Set of %s answers %s, %d", told(s), told(text(set)), e)
		}
	}
}

// The rules that hold everywhere.

// turn turns all slots of a row, and appends to it: where there is room, that writes behind its end.
func turn(l []bool) {
	for i := range l {
		l[i] = !l[i]
	}
	_ = append(l, true, false, true)
}

// rooms are calls that answer a row for a row, by what they are: some that are done, some that are refused.
func rooms() map[string]func(l []bool) []bool {
	take := func(n int) func(l []bool) []bool {
		return func(l []bool) []bool { _, r, _ := space.Take(l, n); return r }
	}
	give := func(at, n int) func(l []bool) []bool {
		return func(l []bool) []bool { r, _ := space.Give(l, at, n); return r }
	}
	return map[string]func(l []bool) []bool{
		"Take of 1": take(1), "Take of 2": take(2), "Take of 3": take(3), "Take of too many": take(5000), "Take of 0": take(0),
		"Give of 1": give(0, 1), "Give of 2": give(3, 2), "Give of a free one": give(1, 1), "Give of what is none": give(-1, 1), "Give of 0": give(0, 0),
	}
}

// What is handed in stays, and what stands behind its end is nobody's; nor does an answer change with it, or it with an answer.
func TestArgumentsStayAndAnswersAreNewMemory(t *testing.T) {
	for _, s := range []string{"", ".", "x", "x.xxx..", "x.xxx...x", strings.Repeat("x..xx", 700), strings.Repeat("x..xx", 1000)} {
		for what, call := range rooms() {
			room := row(s + "..x.x..")
			was := slices.Clone(room)
			l := room[:len(s)]
			got := call(l)
			want := text(call(slices.Clip(slices.Clone(l))))
			if text(got) != want || !slices.Equal(room, was) {
				t.Fatalf("%s in %s, with room behind it: %s instead of %s", what, told(s), told(text(got)), told(want))
			}
			turn(got)
			if !slices.Equal(room, was) {
				t.Fatalf("%s in %s: the row changes with the answer", what, told(s))
			}
			got = call(l)
			turn(room)
			if text(got) != want {
				t.Fatalf("%s in %s: the answer changes with the row", what, told(s))
			}
		}
	}
}

// However much room a row has behind its end, its length alone counts.
func TestRoomBehindTheEndIsNoSlot(t *testing.T) {
	for _, behind := range []string{".", "x"} {
		for _, n := range []int{0, 1, 3, slots - 1, slots} {
			for _, kind := range []string{".", "x"} {
				s := strings.Repeat(kind, n)
				l := row(s + strings.Repeat(behind, 2*slots))[:n]
				if free, longest := space.Free(l), space.Longest(l); free != freeByWords(s) || longest != longestByWords(s) {
					t.Errorf("Free and Longest of %s answer %d, %d", told(s), free, longest)
				}
				for _, m := range []int{1, n, n + 1, n + 2} {
					at, r, e := space.Take(l, m)
					if wantAt, want, f := takeByWords(s, m); at != wantAt || text(r) != want || e != f {
						t.Errorf("Take of %d in %s, %s behind it, answers %d, %s, %d", m, told(s), behind, at, told(text(r)), e)
					}
					for _, from := range []int{0, 1, n - 1, n, n + 1} {
						r, e := space.Give(l, from, m)
						if want, f := giveByWords(s, from, m); text(r) != want || e != f {
							t.Errorf("Give of %d from %d on in %s, %s behind it, answers %s, %d", m, from, told(s), behind, told(text(r)), e)
						}
					}
				}
			}
		}
	}
}

func TestFreeAndLongestChangeNothing(t *testing.T) {
	for _, s := range []string{"", "x.xxx..", strings.Repeat("x..xx", 700), strings.Repeat("x..xx", 1000)} {
		room := row(s + "......")
		was := slices.Clone(room)
		free, longest := space.Free(room[:len(s)]), space.Longest(room[:len(s)])
		if free != freeByWords(s) || longest != longestByWords(s) || !slices.Equal(room, was) {
			t.Errorf("Free and Longest of %s, with room behind it: %d, %d", told(s), free, longest)
		}
	}
}

func TestSetKeepsNothing(t *testing.T) {
	room := []int{4, 0, 2, 1, 4, -1}
	was := slices.Clone(room)
	a, e := space.Set(6, room[:3])
	b, f := space.Set(6, room[:3])
	if text(a) != "x.x.x." || text(b) != text(a) || e != api.OK || f != api.OK || !slices.Equal(room, was) {
		t.Fatalf("Set answers %s, %d, and %s, %d", text(a), e, text(b), f)
	}
	turn(a)
	if text(b) != "x.x.x." {
		t.Error("an answer of Set changes with another one")
	}
	if c, _ := space.Set(6, room[:3]); text(c) != "x.x.x." || !slices.Equal(room, was) {
		t.Errorf("Set answers %s then", text(c))
	}
}

// nil and empty rows are the same to every call.
func TestNilIsEmpty(t *testing.T) {
	for _, l := range [][]bool{nil, {}, make([]bool, 0, 8)} {
		if at, r, e := space.Take(l, 1); at != 0 || len(r) != 0 || e != api.ErrFull {
			t.Errorf("Take answers %d, %v, %d", at, r, e)
		}
		if at, r, e := space.Take(l, 0); at != 0 || len(r) != 0 || e != api.ErrArg {
			t.Errorf("Take of 0 answers %d, %v, %d", at, r, e)
		}
		if r, e := space.Give(l, 0, 1); len(r) != 0 || e != api.ErrArg {
			t.Errorf("Give answers %v, %d", r, e)
		}
		if space.Free(l) != 0 || space.Longest(l) != 0 {
			t.Errorf("Free and Longest answer %d, %d", space.Free(l), space.Longest(l))
		}
	}
}

// Answers hang on nothing but the arguments, whoever else calls.
func TestCallsKnowNothingOfOneAnother(t *testing.T) {
	s := some(2000, 4, "x", ".")
	l := row(s)
	var all sync.WaitGroup
	for i := range 8 {
		all.Go(func() {
			for j := range 40 {
				n := 1 + (i+j)%12
				at, r, e := space.Take(l, n)
				if wantAt, want, f := takeByWords(s, n); at != wantAt || text(r) != want || e != f {
					t.Errorf("Take of %d among other calls: %d, %d", n, at, e)
				}
				turn(r)
				if space.Free(l) != freeByWords(s) || space.Longest(l) != longestByWords(s) {
					t.Error("Free and Longest among other calls")
				}
			}
		})
	}
	all.Wait()
}

// Rows as long as the bound lets them be are refused at once, and a row in which each gap is one too short is gone through once.
func TestGreatArguments(t *testing.T) {
	l := make([]bool, 1<<24)
	if at, r, e := space.Take(l, 1); at != 0 || len(r) != len(l) || e != api.ErrArg {
		t.Errorf("Take in %d slots answers %d, %d, %d", len(l), at, len(r), e)
	}
	if r, e := space.Give(l, 0, 1); len(r) != len(l) || e != api.ErrArg {
		t.Errorf("Give in %d slots answers %d, %d", len(l), len(r), e)
	}
	if space.Free(l) != 0 || space.Longest(l) != 0 {
		t.Error("Free and Longest of too long a row")
	}
	half := strings.Repeat(".", slots/2-1) + "x"
	for range 2000 {
		if _, _, e := space.Take(row(half+half), slots/2); e != api.ErrFull {
			t.Fatalf("Take of %d answers %d", slots/2, e)
		}
	}
}
