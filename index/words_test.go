package index_test

import (
	"fmt"
	"math"
	"math/big"
	"regexp"
	"slices"
	"sort"

	"palimpsest/api"
)

// What the chapter says, in these tests' own words: an index as a map, each field held against its bounds by itself, sums that do not go round.

const (
	packs = 62
	whole = 16384   // bytes of a pack
	many  = 1 << 31 // the greatest Refs
)

var digits = regexp.MustCompile(`^[0-9a-f]{64}$`)

func entryByWords(e api.Entry) bool {
	switch {
	case !digits.MatchString(string(e.Key)):
		return false
	case e.Pack < 0, e.Pack > 61:
		return false
	case e.Off < 0, e.Off > 16383:
		return false
	case e.Size < 1, e.Size > 16384:
		return false
	case e.Refs < 0, e.Refs > 2147483648:
		return false
	}
	return true
}

func checkByWords(l []api.Entry) bool {
	var keys []string
	for _, e := range l {
		if !entryByWords(e) {
			return false
		}
		keys = append(keys, string(e.Key))
	}
	return sort.StringsAreSorted(keys) && len(table(l)) == len(l)
}

// table answers a row as a map.
func table(l []api.Entry) map[api.Key]api.Entry {
	m := map[api.Key]api.Entry{}
	for _, e := range l {
		m[e.Key] = e
	}
	return m
}

// rising answers a map as a row.
func rising(m map[api.Key]api.Entry) []api.Entry {
	var keys []string
	for k := range m {
		keys = append(keys, string(k))
	}
	sort.Strings(keys)
	var l []api.Entry
	for _, k := range keys {
		l = append(l, m[api.Key(k)])
	}
	return l
}

func getByWords(l []api.Entry, k api.Key) (api.Entry, bool) {
	if !checkByWords(l) {
		return api.Entry{}, false
	}
	e, found := table(l)[k]
	return e, found
}

func putByWords(l []api.Entry, e api.Entry) ([]api.Entry, api.Errno) {
	if !checkByWords(l) || !entryByWords(e) {
		return l, api.ErrArg
	}
	m := table(l)
	m[e.Key] = e
	return rising(m), api.OK
}

func delByWords(l []api.Entry, k api.Key) ([]api.Entry, api.Errno) {
	if !checkByWords(l) {
		return l, api.ErrArg
	}
	m := table(l)
	if _, found := m[k]; !found {
		return nil, api.ErrNone
	}
	delete(m, k)
	return rising(m), api.OK
}

func referByWords(l []api.Entry, k api.Key, by int) ([]api.Entry, api.Errno) {
	if !checkByWords(l) {
		return l, api.ErrArg
	}
	m := table(l)
	e, found := m[k]
	if !found {
		return nil, api.ErrNone
	}
	sum := new(big.Int).Add(big.NewInt(int64(e.Refs)), big.NewInt(int64(by)))
	if sum.Sign() < 0 || sum.Cmp(big.NewInt(many)) > 0 {
		return l, api.ErrArg
	}
	e.Refs = int(sum.Int64())
	m[k] = e
	return rising(m), api.OK
}

func mergeByWords(runs [][]api.Entry) ([]api.Entry, api.Errno) {
	m := map[api.Key]api.Entry{}
	for _, run := range runs {
		if !checkByWords(run) {
			return nil, api.ErrArg
		}
		for _, e := range run {
			if _, found := m[e.Key]; !found {
				m[e.Key] = e
			}
		}
	}
	return rising(m), api.OK
}

func bytesByWords(l []api.Entry, n int) []int {
	if !checkByWords(l) || n < 0 || n > packs {
		return nil
	}
	var sums []int
	for p := range n {
		sum := 0
		for _, e := range l {
			if e.Pack == p {
				sum += e.Size
			}
		}
		sums = append(sums, sum)
	}
	return sums
}

// nth answers keys that rise with i.
func nth(i int) api.Key { return api.Key(fmt.Sprintf("%064x", i)) }

// entry answers an entry of the key nth answers, whose other fields are all its own.
func entry(i int) api.Entry {
	return api.Entry{Key: nth(i), Pack: i % packs, Off: (7*i + 3) % whole, Size: 1 + (5*i+1)%whole, Refs: (3*i + 2) % many}
}

// row answers the entries of those numbers.
func row(is ...int) []api.Entry {
	var l []api.Entry
	for _, i := range is {
		l = append(l, entry(i))
	}
	return l
}

// subset answers the entries, of the first n odd numbers, that have their bit in x: between each two a key is left out.
func subset(n, x int) []api.Entry {
	var l []api.Entry
	for i := range n {
		if x>>i&1 == 1 {
			l = append(l, entry(2*i+1))
		}
	}
	return l
}

// wrongKeys answers texts that are no keys.
func wrongKeys() []api.Key {
	k := string(nth(0xabc))
	all := []api.Key{"", "0", "a", api.Key(k[:63]), api.Key(k[1:]), api.Key(k + "0"), api.Key(k + k), api.Key(k + "\n"), api.Key("\n" + k), api.Key(k[:63] + "\n")}
	for _, at := range []int{0, 1, 31, 32, 62, 63} {
		for _, c := range []string{"/", ":", "@", "A", "F", "G", "`", "g", "z", " ", "-", "\x00", "\x80", "\xff"} {
			all = append(all, api.Key(k[:at]+c+k[at+1:]))
		}
		all = append(all, api.Key(k[:at]+"é"+k[at+1:]), api.Key(k[:at]+k[at+1:]), api.Key(k[:at]+"0"+k[at:]))
	}
	return all
}

// far answers numbers that are far off, and such as would go round.
func far() []int {
	return []int{
		math.MinInt, math.MinInt + 1, math.MinInt + many - 1, math.MinInt + many, math.MinInt32 - 1, math.MinInt32, -1 << 16,
		1 << 16, math.MaxInt32 - 1, math.MaxInt32, many + 2, 1 << 32, 1<<32 + 1, math.MaxInt - many - 1, math.MaxInt - many, math.MaxInt - 1, math.MaxInt,
	}
}

// wrongEntries answers entries that may not be, each by one field alone.
func wrongEntries() []api.Entry {
	var all []api.Entry
	for _, k := range wrongKeys() {
		e := entry(5)
		e.Key = k
		all = append(all, e)
	}
	for _, f := range fields() {
		for _, x := range slices.Concat(f.wrong, f.far()) {
			e := entry(5)
			*f.of(&e) = x
			all = append(all, e)
		}
	}
	return all
}

// field is one of an entry's numbers.
type field struct {
	name  string
	of    func(*api.Entry) *int
	right []int // at the edges, and between
	wrong []int // just past them
}

// far answers the numbers that are far off for it.
func (f field) far() []int {
	return slices.DeleteFunc(far(), func(x int) bool { return f.name == "Refs" && x >= 0 && x <= many })
}

func fields() []field {
	return []field{
		{"Pack", func(e *api.Entry) *int { return &e.Pack }, []int{0, 1, 2, 30, 60, 61}, []int{-2, -1, 62, 63, 64, 100}},
		{"Off", func(e *api.Entry) *int { return &e.Off }, []int{0, 1, 2, 255, 256, 8192, 16382, 16383}, []int{-2, -1, 16384, 16385, 20000}},
		{"Size", func(e *api.Entry) *int { return &e.Size }, []int{1, 2, 7, 8192, 8199, 16383, 16384}, []int{-2, -1, 0, 16385, 16386, 20000}},
		{"Refs", func(e *api.Entry) *int { return &e.Refs }, []int{0, 1, 2, 1000, many - 2, many - 1, many}, []int{-2, -1, many + 1, many + 2}},
	}
}

// wrongRows answers rows that may not be.
func wrongRows() [][]api.Entry {
	var all [][]api.Entry
	for _, e := range wrongEntries() {
		all = append(all, []api.Entry{e})
		for at := range 4 {
			l := row(1, 3, 9, 11)
			k := l[at].Key
			l[at] = e
			if digits.MatchString(string(e.Key)) {
				l[at].Key = k
			}
			all = append(all, l)
		}
		all = append(all, slices.Insert(row(1, 3, 9, 11), 2, e))
	}
	again := entry(3)
	again.Pack, again.Refs = 40, 0
	for _, is := range [][]int{{1, 1}, {1, 1, 3}, {1, 3, 3}, {3, 1}, {3, 1, 9}, {1, 9, 3}, {1, 3, 1}, {9, 3, 1}, {1, 3, 9, 9}, {1, 9, 3, 11}, {3, 1, 9, 11}, {3, 3, 3}} {
		all = append(all, row(is...))
	}
	return append(all, []api.Entry{entry(3), again}, []api.Entry{entry(1), again, entry(3)}, []api.Entry{again, entry(3), entry(9)})
}
