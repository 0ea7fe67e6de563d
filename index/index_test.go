package index_test

import (
	"fmt"
	"math"
	"math/rand"
	"slices"
	"sync"
	"testing"

	"palimpsest/api"
	"palimpsest/frame"
	"palimpsest/index"
	"palimpsest/key"
)

// told answers what a failure tells of a row: not all of a long one.
func told(l []api.Entry) string {
	const most = 8
	if len(l) > most {
		return fmt.Sprintf("%v... (%d entries)", l[:most], len(l))
	}
	return fmt.Sprint(l)
}

// checks holds Check against the words, and answers what it answered.
func checks(t *testing.T, l []api.Entry) bool {
	t.Helper()
	ok := index.Check(l)
	if want := checkByWords(l); ok != want {
		t.Fatalf("Check of %s answers %v instead of %v", told(l), ok, want)
	}
	return ok
}

// gets holds Get against the words, and answers what it answered.
func gets(t *testing.T, l []api.Entry, k api.Key) (api.Entry, bool) {
	t.Helper()
	e, ok := index.Get(l, k)
	if want, found := getByWords(l, k); e != want || ok != found {
		t.Fatalf("Get of %q in %s answers %v, %v instead of %v, %v", k, told(l), e, ok, want, found)
	}
	return e, ok
}

// puts holds Put against the words, and answers what it answered.
func puts(t *testing.T, l []api.Entry, e api.Entry) ([]api.Entry, api.Errno) {
	t.Helper()
	r, n := index.Put(l, e)
	if want, f := putByWords(l, e); !slices.Equal(r, want) || n != f {
		t.Fatalf("Put of %v in %s answers %s, %d instead of %s, %d", e, told(l), told(r), n, told(want), f)
	}
	return r, n
}

// dels holds Del against the words, and answers what it answered.
func dels(t *testing.T, l []api.Entry, k api.Key) ([]api.Entry, api.Errno) {
	t.Helper()
	r, n := index.Del(l, k)
	if want, f := delByWords(l, k); !slices.Equal(r, want) || n != f {
		t.Fatalf("Del of %q in %s answers %s, %d instead of %s, %d", k, told(l), told(r), n, told(want), f)
	}
	return r, n
}

// refers holds Refer against the words, and answers what it answered.
func refers(t *testing.T, l []api.Entry, k api.Key, by int) ([]api.Entry, api.Errno) {
	t.Helper()
	r, n := index.Refer(l, k, by)
	if want, f := referByWords(l, k, by); !slices.Equal(r, want) || n != f {
		t.Fatalf("Refer of %q by %d in %s answers %s, %d instead of %s, %d", k, by, told(l), told(r), n, told(want), f)
	}
	return r, n
}

// merges holds Merge against the words, and answers what it answered.
func merges(t *testing.T, runs ...[]api.Entry) ([]api.Entry, api.Errno) {
	t.Helper()
	r, n := index.Merge(runs)
	if want, f := mergeByWords(runs); !slices.Equal(r, want) || n != f {
		t.Fatalf("Merge of %d runs %v answers %s, %d instead of %s, %d", len(runs), runs[:min(len(runs), 4)], told(r), n, told(want), f)
	}
	return r, n
}

// sums holds Bytes against the words, and answers what it answered.
func sums(t *testing.T, l []api.Entry, n int) []int {
	t.Helper()
	r := index.Bytes(l, n)
	if want := bytesByWords(l, n); !slices.Equal(r, want) {
		t.Fatalf("Bytes of %s, %d packs, answers %v instead of %v", told(l), n, r, want)
	}
	return r
}

// some answers a row of about half of the keys that nth answers of numbers below n, whose fields hang on chance.
func some(r *rand.Rand, n int) []api.Entry {
	var l []api.Entry
	for i := range n {
		if r.Intn(2) == 0 {
			l = append(l, chance(r, i))
		}
	}
	return l
}

// chance answers an entry of the key nth answers, whose other fields hang on chance.
func chance(r *rand.Rand, i int) api.Entry {
	return api.Entry{Key: nth(i), Pack: r.Intn(packs), Off: r.Intn(whole), Size: 1 + r.Intn(whole), Refs: r.Intn(many + 1)}
}

// long answers an entry for each of n keys of layer 7, rising.
func long(n int) []api.Entry {
	var keys []api.Key
	for i := range n {
		keys = append(keys, key.Of(i, []byte(fmt.Sprint(i))))
	}
	l := make([]api.Entry, n)
	for i, k := range key.Sort(keys) {
		l[i] = entry(i)
		l[i].Key = k
	}
	return l
}

// P14.1: Check

func TestCheck(t *testing.T) {
	for _, c := range []struct {
		l  []api.Entry
		ok bool
	}{
		{nil, true},
		{[]api.Entry{}, true},
		{row(0), true},
		{row(0, 1), true},
		{row(0, 1, 2, 3, 500), true},
		{row(1, 0), false},
		{row(1, 1), false},
		{row(0, 2, 1), false},
		{row(0, 1, 1), false},
		{row(2, 0, 1), false},
		{[]api.Entry{{}}, false},
		{[]api.Entry{{Key: nth(1), Size: 1}}, true},
		{[]api.Entry{{Key: nth(1)}}, false},
		{[]api.Entry{{Key: nth(1), Pack: 61, Off: 16383, Size: 16384, Refs: many}}, true},
		{[]api.Entry{{Key: nth(1), Pack: 62, Off: 16383, Size: 16384, Refs: many}}, false},
		{[]api.Entry{{Key: nth(1), Pack: 61, Off: 16384, Size: 16384, Refs: many}}, false},
		{[]api.Entry{{Key: nth(1), Pack: 61, Off: 16383, Size: 16385, Refs: many}}, false},
		{[]api.Entry{{Key: nth(1), Pack: 61, Off: 16383, Size: 16384, Refs: many + 1}}, false},
		{[]api.Entry{{Key: nth(1), Pack: -1, Off: 0, Size: 1, Refs: 0}}, false},
		{[]api.Entry{{Key: nth(1), Pack: 0, Off: -1, Size: 1, Refs: 0}}, false},
		{[]api.Entry{{Key: nth(1), Pack: 0, Off: 0, Size: 0, Refs: 0}}, false},
		{[]api.Entry{{Key: nth(1), Pack: 0, Off: 0, Size: 1, Refs: -1}}, false},
	} {
		if ok := checks(t, c.l); ok != c.ok {
			t.Errorf("Check of %s answers %v", told(c.l), ok)
		}
	}
}

// Each number at its edges and past them, in each place of a row.
func TestCheckOfEachNumber(t *testing.T) {
	for _, f := range fields() {
		for at := range 3 {
			with := func(x int) []api.Entry {
				l := row(1, 3, 9)
				*f.of(&l[at]) = x
				return l
			}
			for _, x := range f.right {
				if !checks(t, with(x)) {
					t.Errorf("Check of %s %d answers no", f.name, x)
				}
			}
			for _, x := range slices.Concat(f.wrong, f.far()) {
				if checks(t, with(x)) {
					t.Errorf("Check of %s %d answers yes", f.name, x)
				}
			}
		}
	}
}

func TestCheckOfKeys(t *testing.T) {
	for _, k := range wrongKeys() {
		if checks(t, []api.Entry{{Key: k, Size: 1}}) {
			t.Errorf("Check of the key %q answers yes", k)
		}
		for at := range 3 {
			l := row(1, 3, 9)
			l[at].Key = k
			if checks(t, l) {
				t.Errorf("Check of the key %q at %d answers yes", k, at)
			}
		}
	}
	for kind := range 5 {
		if !checks(t, []api.Entry{{Key: key.Of(kind, nil), Size: 7}}) {
			t.Errorf("Check of layer 7's key of kind %d answers no", kind)
		}
	}
}

// Keys that differ in one digit alone, wherever it is, rise by it.
func TestCheckOfTheOrder(t *testing.T) {
	const all = "0123456789abcdef"
	zero := string(nth(0))
	for at := range 64 {
		var l []api.Entry
		for i := range all {
			l = append(l, api.Entry{Key: api.Key(zero[:at] + all[i:i+1] + zero[at+1:]), Size: 1})
		}
		if !checks(t, l) {
			t.Errorf("Check of keys that rise at %d answers no", at)
		}
		for i := range len(l) - 1 {
			l[i], l[i+1] = l[i+1], l[i]
			if checks(t, l) {
				t.Errorf("Check of keys of which the one at %d falls answers yes", i)
			}
			l[i], l[i+1] = l[i+1], l[i]
		}
	}
	// By the first digit that differs, whatever stands behind it.
	l := []api.Entry{{Key: api.Key("0" + zero[:62] + "f"), Size: 1}, {Key: api.Key("1" + zero[:63]), Size: 1}}
	if !checks(t, l) || checks(t, []api.Entry{l[1], l[0]}) {
		t.Error("keys do not rise by their first digits")
	}
}

// Of what stands in an entry besides the key nothing needs to rise, or to differ.
func TestCheckAsksOneOrderAlone(t *testing.T) {
	l := []api.Entry{{Key: nth(1), Pack: 9, Off: 900, Size: 90, Refs: 3}, {Key: nth(2), Pack: 2, Off: 0, Size: 16384, Refs: 0}, {Key: nth(3), Pack: 2, Off: 0, Size: 16384, Refs: 0}, {Key: nth(4), Pack: 61, Off: 16383, Size: 16384}}
	if !checks(t, l) {
		t.Error("Check answers no")
	}
}

func TestCheckOfWrongRows(t *testing.T) {
	for _, l := range wrongRows() {
		if checks(t, l) {
			t.Errorf("Check of %s answers yes", told(l))
		}
	}
}

func TestCheckOfManyRows(t *testing.T) {
	r := rand.New(rand.NewSource(14))
	for range 2000 {
		l := some(r, 12)
		if !checks(t, l) {
			t.Errorf("Check of %s answers no", told(l))
		}
		for range r.Intn(3) {
			if len(l) > 1 {
				i, j := r.Intn(len(l)), r.Intn(len(l))
				l[i], l[j] = l[j], l[i]
			}
		}
		checks(t, l)
	}
}

// P14.1: rows that may not be

// Every call refuses such a row, whatever else it is handed, and answers it as it is.
func TestWrongRows(t *testing.T) {
	for _, l := range wrongRows() {
		for _, k := range []api.Key{nth(1), nth(3), nth(5), nth(9), nth(0), nth(77), "", l[0].Key, l[len(l)-1].Key} {
			if e, ok := gets(t, l, k); e != (api.Entry{}) || ok {
				t.Errorf("Get of %q in %s answers %v, %v", k, told(l), e, ok)
			}
			if r, n := dels(t, l, k); !slices.Equal(r, l) || n != api.ErrArg {
				t.Errorf("Del of %q in %s answers %s, %d", k, told(l), told(r), n)
			}
			for _, by := range []int{0, 1, -1, math.MaxInt, math.MinInt} {
				if r, n := refers(t, l, k, by); !slices.Equal(r, l) || n != api.ErrArg {
					t.Errorf("Refer of %q by %d in %s answers %s, %d", k, by, told(l), told(r), n)
				}
			}
		}
		for _, e := range append(row(0, 1, 3, 5, 9, 77), api.Entry{}, l[0]) {
			if r, n := puts(t, l, e); !slices.Equal(r, l) || n != api.ErrArg {
				t.Errorf("Put of %v in %s answers %s, %d", e, told(l), told(r), n)
			}
		}
		for _, n := range []int{-1, 0, 1, 4, 61, packs, packs + 1} {
			if r := sums(t, l, n); len(r) != 0 {
				t.Errorf("Bytes of %s, %d packs, answers %v", told(l), n, r)
			}
		}
	}
}

func TestMergeOfWrongRows(t *testing.T) {
	for _, l := range wrongRows() {
		for _, runs := range [][][]api.Entry{{l}, {l, nil}, {nil, l}, {l, l}, {l, row(1, 2)}, {row(1, 2), l}, {row(1, 2), l, row(2, 4)}, {row(1, 2), row(2, 4), row(1, 3, 5, 9, 11), l}} {
			if r, n := merges(t, runs...); len(r) != 0 || n != api.ErrArg {
				t.Errorf("Merge with %s answers %s, %d", told(l), told(r), n)
			}
		}
	}
}

// Each run rises by itself: a run that is none is one, though all that it has is in the others.
func TestMergeLooksAtEachRun(t *testing.T) {
	if r, n := merges(t, row(1, 2, 3), row(2, 1)); len(r) != 0 || n != api.ErrArg {
		t.Errorf("Merge answers %s, %d", told(r), n)
	}
	if r, n := merges(t, row(3), row(2), row(1)); !slices.Equal(r, row(1, 2, 3)) || n != api.OK {
		t.Errorf("Merge of runs that fall from one to the next answers %s, %d", told(r), n)
	}
}

// P14.1: what would be made, and may not be

func TestPutOfWrongEntries(t *testing.T) {
	for _, e := range append(wrongEntries(), api.Entry{}) {
		for _, l := range [][]api.Entry{nil, row(5), row(1, 3), row(1, 3, 5, 9), row(9)} {
			if r, n := puts(t, l, e); !slices.Equal(r, l) || n != api.ErrArg {
				t.Errorf("Put of %v in %s answers %s, %d", e, told(l), told(r), n)
			}
		}
	}
}

func TestReferPastTheEdges(t *testing.T) {
	for _, c := range []struct {
		refs, by int
		e        api.Errno
	}{
		{0, 0, api.OK},
		{0, 1, api.OK},
		{0, -1, api.ErrArg},
		{1, -1, api.OK},
		{1, -2, api.ErrArg},
		{5, -5, api.OK},
		{5, -6, api.ErrArg},
		{0, many, api.OK},
		{0, many + 1, api.ErrArg},
		{1, many - 1, api.OK},
		{1, many, api.ErrArg},
		{many, 0, api.OK},
		{many, 1, api.ErrArg},
		{many, -many, api.OK},
		{many, -many - 1, api.ErrArg},
		{many - 1, 1, api.OK},
		{many - 1, 2, api.ErrArg},
	} {
		l := row(1, 3, 9)
		l[1].Refs = c.refs
		want := slices.Clone(l)
		if c.e == api.OK {
			want[1].Refs = c.refs + c.by
		}
		if r, n := refers(t, l, nth(3), c.by); !slices.Equal(r, want) || n != c.e {
			t.Errorf("Refer of %d by %d answers %s, %d", c.refs, c.by, told(r), n)
		}
	}
}

// Of numbers that are far off no sum goes round.
func TestReferByFarNumbers(t *testing.T) {
	for _, refs := range []int{0, 1, 2, 1000, many/2 - 1, many / 2, many - 2, many - 1, many} {
		for _, x := range far() {
			for _, by := range []int{x, x - 1, x + 1, x - refs, x + refs, -x} {
				l := row(1, 3)
				l[1].Refs = refs
				refers(t, l, nth(3), by)
				refers(t, l[1:], nth(3), by)
				refers(t, l[1:], nth(2), by)
			}
		}
	}
}

// P14.2: Get

func TestGet(t *testing.T) {
	l := row(1, 3, 5, 7, 200)
	for i := range 210 {
		e, ok := gets(t, l, nth(i))
		if found := slices.Contains([]int{1, 3, 5, 7, 200}, i); ok != found || ok && e != entry(i) || !ok && e != (api.Entry{}) {
			t.Errorf("Get of %d answers %v, %v", i, e, ok)
		}
	}
}

// What is no key is no entry's, not even what a key begins or ends with.
func TestGetOfNoKeys(t *testing.T) {
	for _, l := range [][]api.Entry{nil, row(0), row(0xabc), row(1, 3, 0xabc, 0xabd), {{Key: key.Of(1, nil), Size: 1}}} {
		for _, k := range wrongKeys() {
			if e, ok := gets(t, l, k); e != (api.Entry{}) || ok {
				t.Errorf("Get of %q answers %v, %v", k, e, ok)
			}
		}
	}
}

func TestGetInEachShortRow(t *testing.T) {
	const n = 8
	for x := range 1 << n {
		for i := range 2*n + 1 {
			gets(t, subset(n, x), nth(i))
		}
	}
}

// Keys that differ at any one digit are told apart.
func TestGetOfKeysThatAreNearlyAlike(t *testing.T) {
	k := key.Of(1, []byte("a"))
	l := []api.Entry{{Key: k, Pack: 3, Off: 9, Size: 80, Refs: 2}}
	if e, ok := gets(t, l, k); e != l[0] || !ok {
		t.Errorf("Get answers %v, %v", e, ok)
	}
	for at := range 64 {
		for _, c := range "0123456789abcdefABCDEF" {
			gets(t, l, k[:at]+api.Key(c)+k[at+1:])
		}
	}
}

// P14.2: Put

func TestPut(t *testing.T) {
	other := api.Entry{Key: nth(3), Pack: 61, Off: 5, Size: 77, Refs: 0}
	for _, c := range []struct {
		l    []api.Entry
		e    api.Entry
		want []api.Entry
	}{
		{nil, entry(3), row(3)},
		{row(5), entry(3), row(3, 5)},
		{row(1), entry(3), row(1, 3)},
		{row(1, 5), entry(3), row(1, 3, 5)},
		{row(1, 2, 4, 5), entry(3), row(1, 2, 3, 4, 5)},
		{row(3), entry(3), row(3)},
		{row(3), other, []api.Entry{other}},
		{row(1, 3), other, []api.Entry{entry(1), other}},
		{row(3, 5), other, []api.Entry{other, entry(5)}},
		{row(1, 3, 5), other, []api.Entry{entry(1), other, entry(5)}},
		{row(1, 5), other, []api.Entry{entry(1), other, entry(5)}},
	} {
		if r, n := puts(t, c.l, c.e); !slices.Equal(r, c.want) || n != api.OK {
			t.Errorf("Put of %v in %s answers %s, %d", c.e, told(c.l), told(r), n)
		}
	}
}

// At its edges each number is put as it is, in the place of another one or not.
func TestPutOfEachNumber(t *testing.T) {
	for _, f := range fields() {
		for _, x := range f.right {
			e := entry(3)
			*f.of(&e) = x
			for _, l := range [][]api.Entry{nil, row(3), row(1, 5), row(1, 3, 5)} {
				r, n := puts(t, l, e)
				if got, ok := gets(t, r, nth(3)); got != e || !ok || n != api.OK {
					t.Errorf("Put of %s %d answers %v, %d", f.name, x, got, n)
				}
			}
		}
	}
}

func TestPutInEachShortRow(t *testing.T) {
	const n = 7
	for x := range 1 << n {
		for i := range 2*n + 1 {
			e := entry(i)
			puts(t, subset(n, x), e)
			e.Pack, e.Refs = 17, 1
			puts(t, subset(n, x), e)
		}
	}
}

// P14.2: Del

func TestDel(t *testing.T) {
	for _, c := range []struct {
		l    []api.Entry
		i    int
		want []api.Entry
		e    api.Errno
	}{
		{row(3), 3, nil, api.OK},
		{row(1, 3), 3, row(1), api.OK},
		{row(3, 5), 3, row(5), api.OK},
		{row(1, 3, 5), 3, row(1, 5), api.OK},
		{row(1, 2, 3, 4, 5), 1, row(2, 3, 4, 5), api.OK},
		{row(1, 2, 3, 4, 5), 5, row(1, 2, 3, 4), api.OK},
		{nil, 3, nil, api.ErrNone},
		{row(1), 3, nil, api.ErrNone},
		{row(5), 3, nil, api.ErrNone},
		{row(1, 5), 3, nil, api.ErrNone},
		{row(1, 2, 4, 5), 3, nil, api.ErrNone},
	} {
		if r, n := dels(t, c.l, nth(c.i)); !slices.Equal(r, c.want) || n != c.e {
			t.Errorf("Del of %d in %s answers %s, %d", c.i, told(c.l), told(r), n)
		}
	}
}

func TestDelInEachShortRow(t *testing.T) {
	const n = 8
	for x := range 1 << n {
		for i := range 2*n + 1 {
			dels(t, subset(n, x), nth(i))
		}
	}
}

// What is no key has no entry.
func TestDelAndReferOfNoKeys(t *testing.T) {
	for _, l := range [][]api.Entry{nil, row(0), row(0xabc), row(1, 3, 0xabc, 0xabd)} {
		for _, k := range wrongKeys() {
			if r, n := dels(t, l, k); len(r) != 0 || n != api.ErrNone {
				t.Errorf("Del of %q answers %s, %d", k, told(r), n)
			}
			for _, by := range []int{0, 1, -1, math.MaxInt, math.MinInt} {
				if r, n := refers(t, l, k, by); len(r) != 0 || n != api.ErrNone {
					t.Errorf("Refer of %q by %d answers %s, %d", k, by, told(r), n)
				}
			}
		}
	}
}

// P14.2: Refer

func TestRefer(t *testing.T) {
	with := func(refs int) []api.Entry {
		l := row(1, 3, 5)
		l[1].Refs = refs
		return l
	}
	for _, c := range []struct{ from, by, want int }{{0, 0, 0}, {0, 1, 1}, {1, 1, 2}, {2, -1, 1}, {1, -1, 0}, {4, 3, 7}, {4, -3, 1}, {1000, 1000000, 1001000}, {9, 0, 9}} {
		if r, n := refers(t, with(c.from), nth(3), c.by); !slices.Equal(r, with(c.want)) || n != api.OK {
			t.Errorf("Refer of %d by %d answers %s, %d", c.from, c.by, told(r), n)
		}
	}
	for _, i := range []int{0, 2, 4, 6} {
		for _, by := range []int{0, 1, -1, many, math.MaxInt, math.MinInt} {
			if r, n := refers(t, with(7), nth(i), by); len(r) != 0 || n != api.ErrNone {
				t.Errorf("Refer of %d by %d answers %s, %d", i, by, told(r), n)
			}
		}
	}
}

func TestReferInEachShortRow(t *testing.T) {
	const n = 7
	for x := range 1 << n {
		for i := range 2*n + 1 {
			for _, by := range []int{0, 1, 20, -1, -5, -40} {
				refers(t, subset(n, x), nth(i), by)
			}
		}
	}
}

// P14.2: Merge

func TestMergeOfTheExample(t *testing.T) {
	first, second := entry(3), entry(3)
	second.Pack, second.Off, second.Size, second.Refs = 9, 8, 7, 6
	if r, n := merges(t, []api.Entry{first}, []api.Entry{second}); !slices.Equal(r, []api.Entry{first}) || n != api.OK {
		t.Errorf("Merge answers %s, %d", told(r), n)
	}
	if r, n := merges(t, []api.Entry{second}, []api.Entry{first}); !slices.Equal(r, []api.Entry{second}) || n != api.OK {
		t.Errorf("Merge the other way answers %s, %d", told(r), n)
	}
}

func TestMerge(t *testing.T) {
	for _, c := range []struct {
		runs [][]api.Entry
		want []api.Entry
	}{
		{nil, nil},
		{[][]api.Entry{}, nil},
		{[][]api.Entry{nil}, nil},
		{[][]api.Entry{nil, {}, nil}, nil},
		{[][]api.Entry{row(1, 2)}, row(1, 2)},
		{[][]api.Entry{row(1, 2), nil}, row(1, 2)},
		{[][]api.Entry{nil, row(1, 2)}, row(1, 2)},
		{[][]api.Entry{row(1, 2), row(1, 2)}, row(1, 2)},
		{[][]api.Entry{row(1, 2), row(3, 4)}, row(1, 2, 3, 4)},
		{[][]api.Entry{row(3, 4), row(1, 2)}, row(1, 2, 3, 4)},
		{[][]api.Entry{row(1, 3, 5), row(2, 4)}, row(1, 2, 3, 4, 5)},
		{[][]api.Entry{row(2, 4), row(1, 3, 5)}, row(1, 2, 3, 4, 5)},
		{[][]api.Entry{row(1, 2, 3), row(2, 3, 4), row(3, 4, 5)}, row(1, 2, 3, 4, 5)},
		{[][]api.Entry{row(5), row(4), row(3), row(2), row(1)}, row(1, 2, 3, 4, 5)},
	} {
		if r, n := merges(t, c.runs...); !slices.Equal(r, c.want) || n != api.OK {
			t.Errorf("Merge of %v answers %s, %d", c.runs, told(r), n)
		}
	}
}

// marked answers a run whose entries say by their Pack which run they are of.
func marked(l []api.Entry, run int) []api.Entry {
	for i := range l {
		l[i].Pack = run
	}
	return l
}

// Of each key the entry of the first run, wherever it stands in that run and the others.
func TestMergeOfEachShortRuns(t *testing.T) {
	const n = 4
	for x := range 1 << n {
		for y := range 1 << n {
			merges(t, marked(subset(n, x), 1), marked(subset(n, y), 2))
			for z := range 1 << n {
				merges(t, marked(subset(n, x), 1), marked(subset(n, y), 2), marked(subset(n, z), 3))
			}
		}
	}
}

// Of more runs than a few, and longer ones: the first one that has the key, not the last, and not the longest.
func TestMergeOfManyRuns(t *testing.T) {
	r := rand.New(rand.NewSource(2))
	for _, n := range []int{1, 2, 10, 100, 1000} {
		for runs := 1; runs < 30; runs += 4 {
			var all [][]api.Entry
			for i := range runs {
				all = append(all, marked(some(r, n), i))
			}
			merges(t, all...)
			slices.Reverse(all)
			merges(t, all...)
		}
	}
	// The same keys in each run.
	var all [][]api.Entry
	for i := range packs {
		all = append(all, marked(row(1, 2, 3, 4, 5, 6, 7, 8, 9), packs-1-i))
	}
	got, n := merges(t, all...)
	if !slices.Equal(got, marked(row(1, 2, 3, 4, 5, 6, 7, 8, 9), packs-1)) || n != api.OK {
		t.Errorf("Merge answers %s, %d", told(got), n)
	}
}

// P14.2: Bytes

func TestBytes(t *testing.T) {
	l := []api.Entry{
		{Key: nth(1), Pack: 2, Off: 9, Size: 100, Refs: 3},
		{Key: nth(2), Pack: 0, Size: 7},
		{Key: nth(3), Pack: 2, Off: 9, Size: 16384},
		{Key: nth(4), Pack: 61, Size: 40},
		{Key: nth(5), Pack: 0, Off: 3, Size: 1},
	}
	most := make([]int, packs)
	most[0], most[2], most[61] = 8, 16484, 40
	for _, c := range []struct {
		n    int
		want []int
	}{
		{0, nil},
		{1, []int{8}},
		{2, []int{8, 0}},
		{3, []int{8, 0, 16484}},
		{4, []int{8, 0, 16484, 0}},
		{61, most[:61]},
		{62, most},
		{63, nil},
		{64, nil},
		{-1, nil},
		{-2, nil},
	} {
		if r := sums(t, l, c.n); !slices.Equal(r, c.want) {
			t.Errorf("Bytes of %d packs answers %v", c.n, r)
		}
		if r := sums(t, nil, c.n); !slices.Equal(r, make([]int, len(c.want))) {
			t.Errorf("Bytes of nothing, %d packs, answers %v", c.n, r)
		}
	}
	for _, n := range far() {
		if r := sums(t, l, n); len(r) != 0 {
			t.Errorf("Bytes of %d packs answers %v", n, r)
		}
	}
}

// Each pack has its own, and all there is of it.
func TestBytesOfEachPack(t *testing.T) {
	r := rand.New(rand.NewSource(3))
	for range 100 {
		l := some(r, 200)
		for n := range packs + 1 {
			sums(t, l, n)
		}
	}
	for p := range packs {
		want := make([]int, packs)
		want[p] = 3 * whole
		l := marked(row(1, 2, 3), p)
		for i := range l {
			l[i].Size = whole
		}
		if got := sums(t, l, packs); !slices.Equal(got, want) {
			t.Errorf("Bytes of pack %d answers %v", p, got)
		}
	}
}

// The records of a pack, whose places and sizes are layer 12's.
func TestBytesOfRecords(t *testing.T) {
	var l []api.Entry
	off := 0
	for i := range 40 {
		data := make([]byte, i*20)
		b, e := frame.Put(api.Record{Kind: api.KindChunk, Key: key.Of(api.KindChunk, data), Data: data})
		if e != api.OK {
			t.Fatal(e)
		}
		l, e = puts(t, l, api.Entry{Key: key.Of(api.KindChunk, data), Pack: 3, Off: off, Size: len(b)})
		if e != api.OK {
			t.Fatal(e)
		}
		off += len(b)
	}
	if got := sums(t, l, 5); !slices.Equal(got, []int{0, 0, 0, off, 0}) {
		t.Errorf("Bytes answers %v, not %d", got, off)
	}
}

// P14.3

// An index is what was put last and not deleted, in whatever order that was.
func TestWhatFollows(t *testing.T) {
	for seed := range 40 {
		r := rand.New(rand.NewSource(int64(seed)))
		most := 1 + r.Intn(30)
		var l []api.Entry
		last := map[api.Key]api.Entry{}
		for range 300 {
			i := r.Intn(most)
			switch r.Intn(4) {
			case 0:
				var n api.Errno
				was := l
				if l, n = dels(t, l, nth(i)); n == api.ErrNone {
					l = was
				}
				delete(last, nth(i))
			case 1:
				was, by := l, r.Intn(9)-4
				e, found := last[nth(i)]
				var n api.Errno
				if l, n = refers(t, l, nth(i), by); n != api.OK {
					l = was
				} else if !found {
					t.Fatalf("Refer of %d, which is not there, answers OK", i)
				} else {
					e.Refs += by
					last[nth(i)] = e
				}
			default:
				e := chance(r, i)
				e.Refs = r.Intn(4)
				l, _ = puts(t, l, e)
				last[e.Key] = e
			}
			if !slices.Equal(l, rising(last)) || !checks(t, l) {
				t.Fatalf("the index is %s, not %s", told(l), told(rising(last)))
			}
			gets(t, l, nth(i))
		}
	}
}

// What was put and deleted is as it was; what is put in any order is one row.
func TestPutAndDel(t *testing.T) {
	for x := range 1 << 6 {
		was := subset(6, x)
		for i := range 13 {
			if _, found := gets(t, was, nth(i)); found {
				without, _ := dels(t, was, nth(i))
				if again, _ := puts(t, without, entry(i)); !slices.Equal(again, was) {
					t.Fatalf("Del and Put of %d in %s are %s", i, told(was), told(again))
				}
				continue
			}
			with, _ := puts(t, was, entry(i))
			if again, _ := dels(t, with, nth(i)); !slices.Equal(again, was) {
				t.Fatalf("Put and Del of %d in %s are %s", i, told(was), told(again))
			}
		}
	}
	want := row(0, 1, 2, 3, 4, 5, 6, 7, 8, 9)
	r := rand.New(rand.NewSource(4))
	for range 100 {
		var l []api.Entry
		for _, i := range r.Perm(10) {
			l, _ = puts(t, l, entry(i))
		}
		if !slices.Equal(l, want) {
			t.Fatalf("put in another order the index is %s", told(l))
		}
	}
}

// To merge runs is to put what they have, the last run ahead of the others.
func TestMergeIsPutting(t *testing.T) {
	r := rand.New(rand.NewSource(5))
	for range 100 {
		var runs [][]api.Entry
		for range r.Intn(6) {
			runs = append(runs, some(r, 15))
		}
		var l []api.Entry
		for _, run := range slices.Backward(runs) {
			for _, e := range run {
				l, _ = puts(t, l, e)
			}
		}
		if got, n := merges(t, runs...); !slices.Equal(got, l) || n != api.OK {
			t.Fatalf("Merge of %v answers %s, not %s", runs, told(got), told(l))
		}
	}
}

// The rules that hold everywhere.

// all makes each call of a row, one that is right or one that is refused, and answers the rows that they answer.
func all(l []api.Entry, k api.Key) [][]api.Entry {
	e := entry(4)
	put, _ := index.Put(l, e)
	e.Key = k
	set, _ := index.Put(l, e)
	e.Size = 0
	refused, _ := index.Put(l, e)
	del, _ := index.Del(l, k)
	more, _ := index.Refer(l, k, 1)
	none, _ := index.Refer(l, k, -many-1)
	one, _ := index.Merge([][]api.Entry{l})
	two, _ := index.Merge([][]api.Entry{l, l})
	three, _ := index.Merge([][]api.Entry{nil, l, nil})
	index.Get(l, k)
	index.Check(l)
	return [][]api.Entry{put, set, refused, del, more, none, one, two, three}
}

// What is handed in stays, and what stands behind its end is nobody's.
func TestArgumentsStay(t *testing.T) {
	for _, was := range [][]api.Entry{row(1, 3, 5, 200, 201, 202), row(5, 3, 1, 200, 201, 202)} {
		for _, k := range []api.Key{nth(1), nth(2), nth(3), nth(5), nth(6)} {
			room := slices.Clone(was)
			all(room[:3], k)
			index.Bytes(room[:3], packs)
			all(room[:0], k)
			if !slices.Equal(room, was) {
				t.Fatalf("a row that was handed in has changed: %s", told(room))
			}
			runs := [][]api.Entry{room[:2], room[2:3], row(9), row(8)}
			index.Merge(runs[:2])
			index.Merge(runs[:3])
			if !slices.Equal(room, was) || !slices.Equal(runs[2], row(9)) || !slices.Equal(runs[3], row(8)) || len(runs[0]) != 2 || len(runs[1]) != 1 {
				t.Fatalf("runs that were handed in have changed: %v", runs)
			}
		}
	}
}

// Answers are the caller's own: they change with nothing that was handed in, and with no other answer.
func TestAnswersAreNewMemory(t *testing.T) {
	for _, was := range [][]api.Entry{row(1, 3, 5), row(5, 3, 1), row(1)} {
		for _, k := range []api.Key{nth(1), nth(3), nth(9)} {
			l := slices.Clone(was)
			first, second := all(l, k), all(l, k)
			for _, r := range first {
				for i := range r {
					r[i] = api.Entry{Key: "changed"}
				}
				_ = append(r, api.Entry{Key: "more"}, api.Entry{Key: "more"})
			}
			if !slices.Equal(l, was) {
				t.Fatalf("what was handed in changes with an answer: %s", told(l))
			}
			clear(l)
			for i, r := range all(was, k) {
				if !slices.Equal(second[i], r) {
					t.Fatalf("answer %d is %s, bound to what was handed in, or to another one", i, told(second[i]))
				}
			}
		}
	}
	l := row(1, 3)
	sum := sums(t, l, 5)
	sum[1] = 9
	_ = append(sum, 9)
	sums(t, l, 5)
}

// nil and empty lists are the same to every call.
func TestNilIsEmpty(t *testing.T) {
	for _, l := range [][]api.Entry{nil, {}, row(1, 2)[:0]} {
		if !checks(t, l) {
			t.Error("Check answers no")
		}
		if _, ok := gets(t, l, nth(1)); ok {
			t.Error("Get answers yes")
		}
		if r, n := puts(t, l, entry(2)); !slices.Equal(r, row(2)) || n != api.OK {
			t.Errorf("Put answers %s, %d", told(r), n)
		}
		if r, n := dels(t, l, nth(1)); len(r) != 0 || n != api.ErrNone {
			t.Errorf("Del answers %s, %d", told(r), n)
		}
		if r, n := refers(t, l, nth(1), 0); len(r) != 0 || n != api.ErrNone {
			t.Errorf("Refer answers %s, %d", told(r), n)
		}
		if r, n := merges(t, l, l); len(r) != 0 || n != api.OK {
			t.Errorf("Merge answers %s, %d", told(r), n)
		}
		if r := sums(t, l, 2); !slices.Equal(r, []int{0, 0}) {
			t.Errorf("Bytes answers %v", r)
		}
	}
}

// Answers hang on nothing but the arguments, whoever else calls.
func TestCallsKnowNothingOfOneAnother(t *testing.T) {
	l := some(rand.New(rand.NewSource(6)), 60)
	var wait sync.WaitGroup
	for i := range 8 {
		wait.Go(func() {
			for j := range 40 {
				k := nth((7*i + j) % 61)
				was := all(l, k)
				for n, r := range all(l, k) {
					if !slices.Equal(r, was[n]) {
						t.Errorf("answer %d among other calls is %s, not %s", n, told(r), told(was[n]))
					}
				}
				e, ok := index.Get(l, k)
				if want, found := getByWords(l, k); e != want || ok != found {
					t.Errorf("Get among other calls answers %v, %v", e, ok)
				}
			}
		})
	}
	wait.Wait()
}

// The index of as many records as all packs have room for, and one wrong entry in it.
func TestGreatRows(t *testing.T) {
	const most = packs * whole / 7
	l := long(most)
	if !index.Check(l) {
		t.Fatal("Check answers no")
	}
	for _, i := range []int{0, 1, most / 3, most / 2, most - 2, most - 1} {
		e := l[i]
		if got, ok := index.Get(l, e.Key); got != e || !ok {
			t.Errorf("Get answers %v, %v", got, ok)
		}
		e.Refs++
		more, n := index.Refer(l, e.Key, 1)
		put, f := index.Put(l, e)
		if n != api.OK || f != api.OK || more[i] != e || !slices.Equal(more, put) {
			t.Errorf("Refer and Put at %d answer %d, %d", i, n, f)
		}
		without, n := index.Del(l, e.Key)
		if n != api.OK || len(without) != most-1 || !slices.Equal(without[:i], l[:i]) || !slices.Equal(without[i:], l[i+1:]) {
			t.Errorf("Del at %d answers %d", i, n)
		}
		wrong := slices.Clone(l)
		wrong[i].Size = 0
		if r, n := index.Put(wrong, e); n != api.ErrArg || !slices.Equal(r, wrong) || index.Check(wrong) {
			t.Errorf("Put in a row that is wrong at %d answers %d", i, n)
		}
	}
	sum := 0
	for _, n := range index.Bytes(l, packs) {
		sum += n
	}
	for _, e := range l {
		sum -= e.Size
	}
	if sum != 0 {
		t.Errorf("Bytes are %d too many", sum)
	}
}

// Many runs are merged soon, be they short or long.
func TestMergeOfGreatRuns(t *testing.T) {
	l := long(1 << 17)
	for _, each := range []int{1, 2, 100, 1 << 10, 1 << 16} {
		runs := make([][]api.Entry, len(l)/each)
		for i, e := range l {
			// One run has what is far apart: none ends where the next one begins.
			at := i % len(runs)
			runs[at] = append(runs[at], e)
		}
		again := append(slices.Clone(runs), l)
		if r, n := index.Merge(again); n != api.OK || !slices.Equal(r, l) {
			t.Errorf("Merge of %d runs answers %d entries, %d", len(again), len(r), n)
		}
	}
}
