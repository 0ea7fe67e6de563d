package desc_test

import (
	"fmt"
	"math/rand"
	"slices"
	"sync"
	"testing"

	"palimpsest/api"
	"palimpsest/desc"
)

// told answers what a failure tells of a row: not all of a long one.
func told(l []api.Desc) string {
	if len(l) > most+4 {
		return fmt.Sprintf("%v... (%d places)", l[:most], len(l))
	}
	return fmt.Sprint(l)
}

// checks holds Check against the words, and answers what it answered.
func checks(t *testing.T, l []api.Desc) bool {
	t.Helper()
	got := desc.Check(l)
	if got != checkByWords(l) {
		t.Fatalf("Check of %s answers %v", told(l), got)
	}
	return got
}

// opens holds Open against the words, and answers what it answered.
func opens(t *testing.T, l []api.Desc, num, flags int) ([]api.Desc, int, api.Errno) {
	t.Helper()
	r, fd, e := desc.Open(l, num, flags)
	if want, at, f := openByWords(l, num, flags); !slices.Equal(r, want) || fd != at || e != f {
		t.Fatalf("Open of %d, %d in %s answers %s, %d, %d, not %s, %d, %d", num, flags, told(l), told(r), fd, e, told(want), at, f)
	}
	return r, fd, e
}

// gets holds Get against the words, and answers what it answered.
func gets(t *testing.T, l []api.Desc, fd int) (api.Desc, api.Errno) {
	t.Helper()
	d, e := desc.Get(l, fd)
	if want, f := getByWords(l, fd); d != want || e != f {
		t.Fatalf("Get of %d in %s answers %v, %d, not %v, %d", fd, told(l), d, e, want, f)
	}
	return d, e
}

// closes holds Close against the words, and answers what it answered.
func closes(t *testing.T, l []api.Desc, fd int) ([]api.Desc, api.Errno) {
	t.Helper()
	r, e := desc.Close(l, fd)
	if want, f := closeByWords(l, fd); !slices.Equal(r, want) || e != f {
		t.Fatalf("Close of %d in %s answers %s, %d, not %s, %d", fd, told(l), told(r), e, told(want), f)
	}
	return r, e
}

// seeks holds Seek against the words, and answers what it answered.
func seeks(t *testing.T, l []api.Desc, fd, pos int) ([]api.Desc, api.Errno) {
	t.Helper()
	r, e := desc.Seek(l, fd, pos)
	if want, f := seekByWords(l, fd, pos); !slices.Equal(r, want) || e != f {
		t.Fatalf("Seek of %d to %d in %s answers %s, %d, not %s, %d", fd, pos, told(l), told(r), e, told(want), f)
	}
	return r, e
}

// uses holds Used against the words, and answers what it answered.
func uses(t *testing.T, l []api.Desc, num int) int {
	t.Helper()
	n := desc.Used(l, num)
	if want := usedByWords(l, num); n != want {
		t.Fatalf("Used of %d in %s answers %d, not %d", num, told(l), n, want)
	}
	return n
}

// asksAll holds all calls against the words, of each place of a row and of those about it.
func asksAll(t *testing.T, l []api.Desc) {
	t.Helper()
	checks(t, l)
	opens(t, l, 7, 3)
	opens(t, l, 1024, 61)
	opens(t, l, 0, 3)
	opens(t, l, 7, 4)
	for fd := -2; fd < min(len(l), most)+3; fd++ {
		gets(t, l, fd)
		closes(t, l, fd)
		seeks(t, l, fd, 9)
		seeks(t, l, fd, -1)
		uses(t, l, fd)
	}
}

// P19.1

func TestCheckOfRightRows(t *testing.T) {
	for n := range most + 1 {
		for _, l := range [][]api.Desc{some(n, -1), some(n, 0), some(n, 0x5555), some(n, 0xaaaa), some(n, 1)} {
			if !checks(t, l) {
				t.Errorf("Check of %s answers no", told(l))
			}
		}
	}
}

func TestCheckOfTooMany(t *testing.T) {
	for n := most + 1; n < 70; n++ {
		for _, l := range [][]api.Desc{some(n, -1), some(n, 0), some(n, 1)} {
			if checks(t, l) {
				t.Errorf("Check of %s answers yes", told(l))
			}
		}
	}
}

func TestCheckOfEachField(t *testing.T) {
	for _, f := range fields() {
		for _, x := range f.right {
			for at := range 4 {
				l := some(4, 0b1010)
				l[at] = nth(6)
				*f.of(&l[at]) = x
				if !checks(t, l) {
					t.Errorf("Check of %s %d answers no", f.name, x)
				}
			}
		}
		for _, x := range append(far(), f.wrong...) {
			for at := range 4 {
				l := some(4, 0b1010)
				l[at] = nth(6)
				*f.of(&l[at]) = x
				if checks(t, l) {
					t.Errorf("Check of %s %d answers yes", f.name, x)
				}
			}
		}
	}
}

func TestCheckOfAllFlags(t *testing.T) {
	may := 0
	for flags := -300; flags < 300; flags++ {
		if checks(t, []api.Desc{{Num: 1, Flags: flags}}) {
			may++
		}
	}
	if may != 48 {
		t.Errorf("%d flags may be", may)
	}
}

// What is none is none in all its fields.
func TestCheckOfHalfADescriptor(t *testing.T) {
	for x := range 8 {
		d := api.Desc{Num: x & 1, Pos: x >> 1 & 1, Flags: x >> 2}
		if got, want := checks(t, []api.Desc{d}), x == 0 || x == 5 || x == 7; got != want {
			t.Errorf("Check of %v answers %v", d, got)
		}
	}
}

func TestAllCallsOfWrongRows(t *testing.T) {
	for _, l := range wrongRows() {
		if checks(t, l) {
			t.Fatalf("Check of %s answers yes", told(l))
		}
		asksAll(t, l)
		if r, fd, e := desc.Open(l, 1, api.ORead); !slices.Equal(r, l) || fd != 0 || e != api.ErrArg {
			t.Errorf("Open in %s answers %s, %d, %d", told(l), told(r), fd, e)
		}
		if d, e := desc.Get(l, 1); d != (api.Desc{}) || e != api.ErrArg {
			t.Errorf("Get in %s answers %v, %d", told(l), d, e)
		}
		if r, e := desc.Close(l, 1); !slices.Equal(r, l) || e != api.ErrArg {
			t.Errorf("Close in %s answers %s, %d", told(l), told(r), e)
		}
		if r, e := desc.Seek(l, 1, 5); !slices.Equal(r, l) || e != api.ErrArg {
			t.Errorf("Seek in %s answers %s, %d", told(l), told(r), e)
		}
		for _, d := range l[:min(len(l), most)] {
			if n := desc.Used(l, d.Num); n != 0 {
				t.Errorf("Used in %s answers %d", told(l), n)
			}
		}
	}
}

// P19.2: Open

func TestTheExample(t *testing.T) {
	l, a, e := desc.Open(nil, 5, api.ORead)
	l, b, f := desc.Open(l, 6, api.OWrite)
	l, g := desc.Close(l, 0)
	l, c, h := desc.Open(l, 7, api.ORead|api.OWrite)
	if a != 0 || b != 1 || c != 0 || e != api.OK || f != api.OK || g != api.OK || h != api.OK {
		t.Errorf("%d, %d, %d, and %d, %d, %d, %d", a, b, c, e, f, g, h)
	}
	if want := []api.Desc{{Num: 7, Flags: 3}, {Num: 6, Flags: 2}}; !slices.Equal(l, want) {
		t.Errorf("the row is %s", told(l))
	}
}

func TestOpen(t *testing.T) {
	x, new := api.Desc{Num: 3, Pos: 8, Flags: 1}, api.Desc{Num: 9, Flags: 34}
	for _, c := range []struct {
		l, want []api.Desc
		fd      int
	}{
		{nil, []api.Desc{new}, 0},
		{[]api.Desc{{}}, []api.Desc{new}, 0},
		{[]api.Desc{x}, []api.Desc{x, new}, 1},
		{[]api.Desc{{}, {}}, []api.Desc{new, {}}, 0}, // none at the end of a row stays, but at a Close
		{[]api.Desc{x, {}}, []api.Desc{x, new}, 1},
		{[]api.Desc{x, {}, x, {}}, []api.Desc{x, new, x, {}}, 1},
		{[]api.Desc{x, x, {}, {}, x}, []api.Desc{x, x, new, {}, x}, 2},
		{some(15, -1), append(some(15, -1), new), 15},
	} {
		if r, fd, e := opens(t, c.l, 9, 34); !slices.Equal(r, c.want) || fd != c.fd || e != api.OK {
			t.Errorf("Open in %s answers %s, %d, %d", told(c.l), told(r), fd, e)
		}
	}
}

// In each row of up to seven places, and in each of as many as there may be but for some that are none.
func TestOpenOfEachRow(t *testing.T) {
	for n := range 8 {
		for x := range 1 << n {
			opens(t, some(n, x), 9, 3)
		}
	}
	for x := range 1 << 16 {
		opens(t, some(most, x), 9, 3)
	}
}

func TestOpenOfNumbersAndFlags(t *testing.T) {
	num, flags := fields()[0], fields()[2]
	for _, n := range slices.Concat(num.right, num.wrong, far()) {
		for _, f := range slices.Concat(flags.right, flags.wrong, far()) {
			may := slices.Contains(num.right, n) && slices.Contains(flags.right, f)
			for _, l := range [][]api.Desc{nil, some(3, 0b101), some(15, -1)} {
				r, _, e := opens(t, l, n, f)
				if may != (e == api.OK) || !may && (e != api.ErrArg || !slices.Equal(r, l)) {
					t.Errorf("Open of %d, %d in %s answers %s, %d", n, f, told(l), told(r), e)
				}
			}
		}
	}
}

func TestOpenOfTooMany(t *testing.T) {
	if r, fd, e := opens(t, full(), 1, 1); len(r) != 0 || fd != 0 || e != api.ErrMFile {
		t.Errorf("Open answers %s, %d, %d", told(r), fd, e)
	}
	// What may not be comes first.
	for _, c := range [][2]int{{0, 1}, {1025, 1}, {1, 0}, {1, 4}, {1, 65}, {-1, -1}} {
		if _, _, e := opens(t, full(), c[0], c[1]); e != api.ErrArg {
			t.Errorf("Open of %d, %d in a full row answers %d", c[0], c[1], e)
		}
	}
	for at := range most {
		l := full()
		l[at] = api.Desc{}
		if _, fd, e := opens(t, l, 1, 1); fd != at || e != api.OK {
			t.Errorf("Open in a row that is full but for %d answers %d, %d", at, fd, e)
		}
	}
}

// P19.2: Get, Close, Seek, Used

func TestGet(t *testing.T) {
	l := some(5, 0b10110)
	for _, c := range []struct {
		fd   int
		want api.Desc
		e    api.Errno
	}{
		{-1, api.Desc{}, api.ErrBadF},
		{0, api.Desc{}, api.ErrBadF},
		{1, nth(1), api.OK},
		{2, nth(2), api.OK},
		{3, api.Desc{}, api.ErrBadF},
		{4, nth(4), api.OK},
		{5, api.Desc{}, api.ErrBadF},
		{16, api.Desc{}, api.ErrBadF},
	} {
		if d, e := gets(t, l, c.fd); d != c.want || e != c.e {
			t.Errorf("Get of %d answers %v, %d", c.fd, d, e)
		}
	}
}

func TestClose(t *testing.T) {
	x, y := nth(3), nth(4)
	for _, c := range []struct {
		l    []api.Desc
		fd   int
		want []api.Desc
		e    api.Errno
	}{
		{[]api.Desc{x}, 0, nil, api.OK},
		{[]api.Desc{x, y}, 0, []api.Desc{{}, y}, api.OK},
		{[]api.Desc{x, y}, 1, []api.Desc{x}, api.OK},
		{[]api.Desc{x, {}, y}, 2, []api.Desc{x}, api.OK}, // all that are none at the end
		{[]api.Desc{{}, {}, y}, 2, nil, api.OK},
		{[]api.Desc{{}, x, {}, {}, y}, 4, []api.Desc{{}, x}, api.OK},
		{[]api.Desc{x, {}, y}, 0, []api.Desc{{}, {}, y}, api.OK}, // and none at its beginning
		{[]api.Desc{x, y, {}, {}}, 0, []api.Desc{{}, y}, api.OK}, // those that were there ahead, too
		{[]api.Desc{x, y, {}, {}}, 1, []api.Desc{x}, api.OK},
		{[]api.Desc{x, y}, 2, nil, api.ErrBadF},
		{[]api.Desc{x, y}, -1, nil, api.ErrBadF},
		{[]api.Desc{x, {}, y}, 1, nil, api.ErrBadF},
		{[]api.Desc{x, {}}, 1, nil, api.ErrBadF},
		{nil, 0, nil, api.ErrBadF},
	} {
		if r, e := closes(t, c.l, c.fd); !slices.Equal(r, c.want) || e != c.e {
			t.Errorf("Close of %d in %s answers %s, %d", c.fd, told(c.l), told(r), e)
		}
	}
}

func TestSeek(t *testing.T) {
	l := some(4, 0b0101)
	at := func(fd, pos int) []api.Desc {
		r := slices.Clone(l)
		r[fd].Pos = pos
		return r
	}
	for _, c := range []struct {
		fd, pos int
		want    []api.Desc
		e       api.Errno
	}{
		{0, 0, at(0, 0), api.OK},
		{0, 1, at(0, 1), api.OK},
		{2, 7, at(2, 7), api.OK}, // where it is already
		{2, 32767, at(2, 32767), api.OK},
		{2, 32768, at(2, 32768), api.OK},
		{2, 32769, nil, api.ErrInval},
		{2, -1, nil, api.ErrInval},
		{1, 0, nil, api.ErrBadF},
		{3, 5, nil, api.ErrBadF},
		{1, -1, nil, api.ErrBadF}, // which is named first
		{4, 32769, nil, api.ErrBadF},
		{-1, 0, nil, api.ErrBadF},
	} {
		if r, e := seeks(t, l, c.fd, c.pos); !slices.Equal(r, c.want) || e != c.e {
			t.Errorf("Seek of %d to %d answers %s, %d", c.fd, c.pos, told(r), e)
		}
	}
}

func TestUsed(t *testing.T) {
	a, b, c := api.Desc{Num: 1, Flags: 1}, api.Desc{Num: 1024, Pos: 9, Flags: 2}, api.Desc{Num: 1, Pos: 1024, Flags: 63}
	l := []api.Desc{a, {}, b, c, a, {}, b, {}}
	for num, want := range map[int]int{1: 3, 1024: 2, 0: 0, 2: 0, 9: 0, 63: 0, -1: 0, 1025: 0} {
		if n := uses(t, l, num); n != want {
			t.Errorf("Used of %d answers %d", num, n)
		}
	}
	all := slices.Repeat([]api.Desc{b}, most)
	if uses(t, all, 1024) != most || uses(t, nil, 1) != 0 || uses(t, make([]api.Desc, most), 0) != 0 {
		t.Error("Used of full and of empty rows")
	}
}

func TestAllCallsOfEachRow(t *testing.T) {
	for n := range 9 {
		for x := range 1 << n {
			asksAll(t, some(n, x))
		}
	}
	for _, x := range []int{0, 1, 1 << 15, 3 << 14, 0x7fff, 0xfffe, 0xffff, 0x8001, 0xf0f0, 0x5a5a} {
		asksAll(t, some(most, x))
		asksAll(t, some(most-1, x))
	}
}

func TestFarNumbers(t *testing.T) {
	for _, l := range [][]api.Desc{nil, some(1, 1), some(4, 0b0101), full()} {
		for _, x := range slices.Concat(far(), fields()[0].wrong, fields()[1].wrong) {
			gets(t, l, x)
			closes(t, l, x)
			uses(t, l, x)
			for _, y := range slices.Concat(far(), fields()[1].right, fields()[1].wrong) {
				seeks(t, l, x, y)
				seeks(t, l, 0, y)
				opens(t, l, x, y)
			}
		}
	}
}

// A row that is opened in, closed in and sought in, again and again, is always as the words have it, and may be.
func TestALongWay(t *testing.T) {
	for seed := range 40 {
		r := rand.New(rand.NewSource(int64(seed)))
		var l []api.Desc
		for range 400 {
			was, e := l, api.OK
			fd := r.Intn(most+2) - 1
			switch r.Intn(2 + seed%3) {
			case 0:
				l, e = closes(t, l, fd)
			case 1:
				l, e = seeks(t, l, fd, r.Intn(lastByte+3)-1)
			default:
				l, fd, e = opens(t, l, r.Intn(6), r.Intn(66))
				if d, f := gets(t, l, fd); e == api.OK && (f != api.OK || d.Pos != 0) {
					t.Fatalf("what was opened is %v, %d", d, f)
				}
			}
			if e != api.OK {
				l = was
			}
			if !checks(t, l) || len(l) > 0 && l[len(l)-1] == (api.Desc{}) {
				t.Fatalf("the row is %s", told(l))
			}
			uses(t, l, r.Intn(6))
			gets(t, l, fd)
		}
	}
}

// What is opened and closed at the end of a row is the row again.
func TestCloseOfWhatWasOpened(t *testing.T) {
	for n := range most {
		for _, x := range []int{0, 1, 0x5555, 0xaaaa, 0xffff} {
			l := some(n, x|1<<n>>1)
			more, fd, _ := opens(t, l, 4, 2)
			back, e := closes(t, more, fd)
			if !slices.Equal(back, l) || e != api.OK {
				t.Errorf("Open and Close in %s are %s, %d", told(l), told(back), e)
			}
		}
	}
}

// The rules that hold everywhere.

// rows are calls that answer a row for a row, by what they are: some that are done, some that are refused.
func rows() map[string]func(l []api.Desc) []api.Desc {
	open := func(num, flags int) func(l []api.Desc) []api.Desc {
		return func(l []api.Desc) []api.Desc { r, _, _ := desc.Open(l, num, flags); return r }
	}
	closed := func(fd int) func(l []api.Desc) []api.Desc {
		return func(l []api.Desc) []api.Desc { r, _ := desc.Close(l, fd); return r }
	}
	seek := func(fd, pos int) func(l []api.Desc) []api.Desc {
		return func(l []api.Desc) []api.Desc { r, _ := desc.Seek(l, fd, pos); return r }
	}
	return map[string]func(l []api.Desc) []api.Desc{
		"Open": open(5, 3), "Open of no number": open(0, 3), "Open of no flags": open(5, 0),
		"Close of 0": closed(0), "Close of 1": closed(1), "Close of 3": closed(3), "Close of what is none": closed(-1),
		"Seek of 0": seek(0, 77), "Seek of 1": seek(1, 77), "Seek of 3": seek(3, 77), "Seek to its place": seek(1, nth(1).Pos), "Seek to no place": seek(1, -1),
	}
}

// spoil changes all of a row, and appends to it: where there is room, that writes behind its end.
func spoil(l []api.Desc) {
	for i := range l {
		l[i].Num += 5
		l[i].Pos--
		l[i].Flags ^= 7
	}
	_ = append(l, nth(1), nth(2), nth(3))
}

// What is handed in stays, and what stands behind its end is nobody's; nor does an answer change with it, or it with an answer.
func TestArgumentsStayAndAnswersAreNewMemory(t *testing.T) {
	wrong := some(4, -1)
	wrong[2].Flags = 0
	for _, s := range [][]api.Desc{nil, some(1, 0), some(1, 1), some(4, 0b1010), some(4, 0b1011), some(4, -1), some(6, 0b001010), some(15, -1), full(), some(17, -1), wrong} {
		for what, call := range rows() {
			room := slices.Concat(s, some(5, 0b11011))
			was := slices.Clone(room)
			l := room[:len(s)]
			got := call(l)
			want := slices.Clone(call(slices.Clip(slices.Clone(l))))
			if !slices.Equal(got, want) || !slices.Equal(room, was) {
				t.Fatalf("%s in %s, with room behind it: %s instead of %s", what, told(s), told(got), told(want))
			}
			spoil(got)
			if !slices.Equal(room, was) {
				t.Fatalf("%s in %s: the row changes with the answer", what, told(s))
			}
			got = call(l)
			spoil(room)
			if !slices.Equal(got, want) {
				t.Fatalf("%s in %s: the answer changes with the row", what, told(s))
			}
		}
	}
}

func TestWhatAnswersNoRowChangesNothing(t *testing.T) {
	for _, s := range [][]api.Desc{nil, some(5, 0b10110), full(), some(20, -1)} {
		room := slices.Concat(s, full())
		was := slices.Clone(room)
		l := room[:len(s)]
		checks(t, l)
		for num := range 24 {
			gets(t, l, num)
			uses(t, l, num)
		}
		if !slices.Equal(room, was) {
			t.Errorf("%s was changed", told(s))
		}
	}
}

// nil and empty rows are the same to every call.
func TestNilIsEmpty(t *testing.T) {
	for _, l := range [][]api.Desc{nil, {}, full()[:0]} {
		if !checks(t, l) || uses(t, l, 1) != 0 {
			t.Error("Check and Used of an empty row")
		}
		if r, fd, e := opens(t, l, 8, 1); !slices.Equal(r, []api.Desc{{Num: 8, Flags: 1}}) || fd != 0 || e != api.OK {
			t.Errorf("Open answers %s, %d, %d", told(r), fd, e)
		}
		if r, fd, e := opens(t, l, 0, 1); len(r) != 0 || fd != 0 || e != api.ErrArg {
			t.Errorf("Open of nothing answers %s, %d, %d", told(r), fd, e)
		}
		if _, e := gets(t, l, 0); e != api.ErrBadF {
			t.Errorf("Get answers %d", e)
		}
		if r, e := closes(t, l, 0); len(r) != 0 || e != api.ErrBadF {
			t.Errorf("Close answers %s, %d", told(r), e)
		}
		if r, e := seeks(t, l, 0, 0); len(r) != 0 || e != api.ErrBadF {
			t.Errorf("Seek answers %s, %d", told(r), e)
		}
	}
}

// Answers hang on nothing but the arguments, whoever else calls.
func TestCallsKnowNothingOfOneAnother(t *testing.T) {
	l := some(9, 0b101101101)
	var all sync.WaitGroup
	for i := range 8 {
		all.Go(func() {
			for j := range 100 {
				x := (3*i + j) % 11
				r, fd, e := desc.Open(l, 1+x, 1+x%3)
				if want, at, f := openByWords(l, 1+x, 1+x%3); !slices.Equal(r, want) || fd != at || e != f {
					t.Errorf("Open among other calls answers %s, %d, %d", told(r), fd, e)
				}
				spoil(r)
				r, e = desc.Close(l, x)
				if want, f := closeByWords(l, x); !slices.Equal(r, want) || e != f {
					t.Errorf("Close among other calls answers %s, %d", told(r), e)
				}
				spoil(r)
				r, e = desc.Seek(l, x, j)
				if want, f := seekByWords(l, x, j); !slices.Equal(r, want) || e != f || desc.Used(l, x) != usedByWords(l, x) {
					t.Errorf("Seek among other calls answers %s, %d", told(r), e)
				}
				spoil(r)
			}
		})
	}
	all.Wait()
}

// Rows as long as the bound lets them be are refused at once.
func TestGreatRows(t *testing.T) {
	const places = 1 << 19
	l := slices.Repeat([]api.Desc{nth(1), nth(2)}, places/2)
	if desc.Check(l) || desc.Used(l, 2) != 0 {
		t.Error("Check and Used of too long a row")
	}
	if d, e := desc.Get(l, 0); d != (api.Desc{}) || e != api.ErrArg {
		t.Errorf("Get answers %v, %d", d, e)
	}
	r, fd, e := desc.Open(l, 1, 1)
	if !slices.Equal(r, l) || fd != 0 || e != api.ErrArg {
		t.Errorf("Open answers %d places, %d, %d", len(r), fd, e)
	}
	if r, e := desc.Close(l, 0); !slices.Equal(r, l) || e != api.ErrArg {
		t.Errorf("Close answers %d places, %d", len(r), e)
	}
	if r, e := desc.Seek(l, 0, 0); !slices.Equal(r, l) || e != api.ErrArg {
		t.Errorf("Seek answers %d places, %d", len(r), e)
	}
}
