package desc_test

import (
	"math"

	"palimpsest/api"
)

// What the chapter says, in these tests' own words: a row is how long it is, and a map of the descriptors that it has.

const (
	most     = 16
	lastNum  = 1024
	lastByte = 32768
)

// row is a row of so many places, with the descriptors that stand in some of them.
type row struct {
	places int
	at     map[int]api.Desc
}

// opened answers a row that may be by its descriptors.
func opened(l []api.Desc) row {
	r := row{len(l), map[int]api.Desc{}}
	for fd, d := range l {
		if d.Num != 0 {
			r.at[fd] = d
		}
	}
	return r
}

// list answers a row as a list.
func (r row) list() []api.Desc {
	var l []api.Desc
	for fd := range r.places {
		l = append(l, r.at[fd])
	}
	return l
}

// flagsByWords are the flags that may be: of each, the lowest two bits are not both 0.
func flagsByWords() []int {
	var all []int
	for high := 0; high < 64; high += 4 {
		all = append(all, high+1, high+2, high+3)
	}
	return all
}

// mayBe tells whether a descriptor of that number, place and flags may be.
func mayBe(num, pos, flags int) bool {
	for _, f := range flagsByWords() {
		if f == flags {
			return num > 0 && num < 1025 && pos > -1 && pos < 32769
		}
	}
	return false
}

func checkByWords(l []api.Desc) bool {
	for _, d := range l {
		nothing := d.Num == 0 && d.Pos == 0 && d.Flags == 0
		if !nothing && !mayBe(d.Num, d.Pos, d.Flags) {
			return false
		}
	}
	return len(l) < 17
}

func openByWords(l []api.Desc, num, flags int) ([]api.Desc, int, api.Errno) {
	if !checkByWords(l) || !mayBe(num, 0, flags) {
		return l, 0, 2
	}
	r := opened(l)
	for fd := range most {
		if _, has := r.at[fd]; !has {
			r.at[fd], r.places = api.Desc{Num: num, Flags: flags}, max(r.places, fd+1)
			return r.list(), fd, 0
		}
	}
	return nil, 0, 217
}

func getByWords(l []api.Desc, fd int) (api.Desc, api.Errno) {
	if !checkByWords(l) {
		return api.Desc{}, 2
	}
	if d, has := opened(l).at[fd]; has {
		return d, 0
	}
	return api.Desc{}, 207
}

func closeByWords(l []api.Desc, fd int) ([]api.Desc, api.Errno) {
	if !checkByWords(l) {
		return l, 2
	}
	r := opened(l)
	if _, has := r.at[fd]; !has {
		return nil, 207
	}
	delete(r.at, fd)
	r.places = 0
	for fd := range r.at {
		r.places = max(r.places, fd+1)
	}
	return r.list(), 0
}

func seekByWords(l []api.Desc, fd, pos int) ([]api.Desc, api.Errno) {
	if !checkByWords(l) {
		return l, 2
	}
	r := opened(l)
	d, has := r.at[fd]
	switch {
	case !has:
		return nil, 207
	case pos < 0 || pos > 32768:
		return nil, 206
	}
	r.at[fd] = api.Desc{Num: d.Num, Pos: pos, Flags: d.Flags}
	return r.list(), 0
}

func usedByWords(l []api.Desc, num int) int {
	used := 0
	if checkByWords(l) {
		for _, d := range opened(l).at {
			used += map[bool]int{true: 1}[d.Num == num]
		}
	}
	return used
}

// nth answers descriptors that differ in all fields, those next to one another.
func nth(i int) api.Desc {
	all := flagsByWords()
	return api.Desc{Num: 1 + i%lastNum, Pos: 3*i + 1, Flags: all[(5*i+2)%len(all)]}
}

// some answers a row of n places, in which those have a descriptor that have their bit in x.
func some(n, x int) []api.Desc {
	var l []api.Desc
	for i := range n {
		d := api.Desc{}
		if x>>i&1 == 1 {
			d = nth(i)
		}
		l = append(l, d)
	}
	return l
}

// full answers a row with as many descriptors as there may be.
func full() []api.Desc { return some(most, -1) }

// far answers numbers that are far off, and such as would go round.
func far() []int {
	return []int{
		math.MinInt, math.MinInt + 1, math.MinInt + most, math.MinInt + lastNum, math.MinInt32 - 1, math.MinInt32, -1 << 16, -64,
		1 << 16, math.MaxInt32 - 1, math.MaxInt32, 1 << 31, 1 << 32, 1<<32 + 1, 1<<32 + 3, math.MaxInt - lastByte, math.MaxInt - 1, math.MaxInt,
	}
}

// field is one of a descriptor's numbers.
type field struct {
	name  string
	of    func(*api.Desc) *int
	right []int // at the edges, and between
	wrong []int // just past them, or between
}

func fields() []field {
	return []field{
		{"Num", func(d *api.Desc) *int { return &d.Num }, []int{1, 2, 3, 511, 512, 513, 1022, 1023, 1024}, []int{-2, -1, 0, 1025, 1026, 2048}},
		{"Pos", func(d *api.Desc) *int { return &d.Pos }, []int{0, 1, 2, 255, 256, 16384, 32766, 32767, 32768}, []int{-2, -1, 32769, 32770, 65536}},
		{"Flags", func(d *api.Desc) *int { return &d.Flags }, flagsByWords(), []int{-3, -2, -1, 0, 4, 8, 12, 16, 20, 28, 32, 36, 48, 56, 60, 64, 65, 66, 67, 127, 128, 129}},
	}
}

// wrongDescs answers descriptors that may not be, most of them by one field alone.
func wrongDescs() []api.Desc {
	all := []api.Desc{{Num: 1}, {Pos: 1}, {Pos: -1}, {Flags: 1}, {Flags: 4}, {Pos: 1, Flags: 1}, {Num: 1, Pos: 1}, {Num: -1, Pos: -1, Flags: -1}}
	for _, f := range fields() {
		for _, x := range append(far(), f.wrong...) {
			d := nth(6)
			*f.of(&d) = x
			all = append(all, d)
		}
	}
	return all
}

// wrongRows answers rows that may not be, by what one place has, or by how many they are.
func wrongRows() [][]api.Desc {
	var all [][]api.Desc
	for _, d := range wrongDescs() {
		all = append(all, []api.Desc{d})
		for _, base := range [][]api.Desc{some(5, 0b10110), full()} {
			for _, at := range []int{0, 1, len(base) - 1} {
				base[at] = d
				all = append(all, append([]api.Desc{}, base...))
				base[at] = nth(at)
			}
		}
	}
	for n := most + 1; n < most+5; n++ {
		all = append(all, some(n, -1), some(n, 0), some(n, 1), some(n, 1<<(n-1)))
	}
	return append(all, some(1000, -1), make([]api.Desc, 1000))
}
