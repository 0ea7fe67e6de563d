package plain_test

import (
	"maps"
	"slices"
	"strings"
	"unicode/utf8"

	"palimpsest/api"
)

// Chapter 17 once more, in this test's own words and by the library: which file systems may be, and what is done to their inodes.

// from tells whether a number is from least to most.
func from(least, x, most int) bool { return x >= least && x <= most }

// all tells whether each thing that is said is so.
func all(said ...bool) bool { return !slices.Contains(said, false) }

// wrongName answers the error of a name.
func wrongName(s string) api.Errno {
	if len(s) > 100 {
		return 208
	}
	if all(s != "", s != ".", s != "..", utf8.ValidString(s), !strings.ContainsAny(s, "/\x00")) {
		return 0
	}
	return 206
}

// mayNames tells whether there are so many names at most, all of them right, each once, in their order.
func mayNames(l []string, most int) bool {
	once := map[string]bool{}
	for _, s := range l {
		once[s] = wrongName(s) == 0
	}
	return all(len(l) <= most, len(once) == len(l), slices.IsSorted(l), !slices.Contains(slices.Collect(maps.Values(once)), false))
}

// mayInode tells whether an inode may be, but for where it stands, and who stands in it.
func mayInode(x api.Inode) bool {
	var names []string
	so := true
	for _, a := range x.Attrs {
		names = append(names, a.Name)
		so = so && len(a.Value) <= 256
	}
	so = all(so, mayNames(names, 8), from(0, x.Mode, 4095), mayNames(x.Names, 128), len(x.Nums) == len(x.Names))
	file := all(from(0, x.Links, 64), x.Target == "", len(x.Data) <= 32768, len(x.Names) == 0)
	dir := all(x.Links == 1, x.Target == "", len(x.Data) == 0)
	link := all(from(0, x.Links, 64), from(1, len(x.Target), 1000), !strings.Contains(x.Target, "\x00"), len(x.Data) == 0, len(x.Names) == 0)
	return so && map[api.Kind]bool{1: file, 2: dir, 3: link}[x.Kind]
}

// above answers the directories that each number stands in, one for each place.
func above(f api.Fs) map[int][]int {
	in := map[int][]int{}
	for _, x := range f.Inodes {
		for _, num := range x.Nums {
			in[num] = append(in[num], x.Num)
		}
	}
	return in
}

// may tells whether a file system may be.
func may(f api.Fs) bool {
	n := len(f.Inodes)
	if !from(1, n, 512) || !from(2, f.Next, 513) {
		return false
	}
	kinds, last := map[int]api.Kind{}, 0
	for _, x := range f.Inodes {
		if x.Num <= last || !mayInode(x) {
			return false
		}
		last = x.Num
		kinds[x.Num] = x.Kind
	}
	in := above(f)
	for num := range in {
		if kinds[num] == 0 {
			return false
		}
	}
	for _, x := range f.Inodes {
		if x.Kind == 2 && len(in[x.Num]) > 1 || x.Kind != 2 && len(in[x.Num]) != x.Links {
			return false
		}
	}
	return all(last <= 1024, kinds[1] == 2, len(in[1]) == 0, mayWays(f, in))
}

// mayWays tells whether nobody's way up is longer than there are inodes.
func mayWays(f api.Fs, in map[int][]int) bool {
	for _, x := range f.Inodes {
		at := []int{x.Num}
		for range f.Inodes {
			if len(at) > 0 {
				at = in[at[0]]
			}
		}
		if len(at) > 0 {
			return false
		}
	}
	return true
}

// node is an inode whose entries stand in a map.
type node struct {
	api.Inode
	entries map[string]int
}

// world is a file system's nodes by their numbers.
type world map[int]*node

// open answers the nodes of a file system that may be.
func open(f api.Fs) world {
	w := world{}
	for _, x := range bare(f).Inodes {
		n := &node{x, map[string]int{}}
		for i, s := range x.Names {
			n.entries[s] = x.Nums[i]
		}
		w[x.Num] = n
	}
	return w
}

// fs answers the file system that nodes are.
func (w world) fs(next int) api.Fs {
	f := api.Fs{Next: next}
	for _, num := range slices.Sorted(maps.Keys(w)) {
		x := w[num].Inode
		x.Names, x.Nums = slices.Sorted(maps.Keys(w[num].entries)), nil
		for _, s := range x.Names {
			x.Nums = append(x.Nums, w[num].entries[s])
		}
		f.Inodes = append(f.Inodes, x)
	}
	return bare(f)
}

// lookup answers who has a name in a directory.
func (w world) lookup(dir int, s string) (int, api.Errno) {
	d := w[dir]
	if d == nil {
		return 0, 201
	}
	if d.Kind != 2 {
		return 0, 203
	}
	if num, has := d.entries[s]; has {
		return num, 0
	}
	return 0, 201
}

// parent answers the directory of a directory.
func (w world) parent(num int) int {
	for dir, d := range w {
		for _, x := range d.entries {
			if x == num && w[num].Kind == 2 {
				return dir
			}
		}
	}
	return 0
}

// stands tells whether somebody has that number.
func (w world) stands(num int) bool {
	for _, d := range w {
		if slices.Contains(slices.Collect(maps.Values(d.entries)), num) {
			return true
		}
	}
	return false
}

func (w world) make(next int, kind api.Kind, mode int, target string) (int, api.Errno) {
	if len(w) == 512 {
		return 0, 211
	}
	num := next
	for w[num] != nil {
		num++
	}
	links := 0
	if kind == 2 {
		links = 1
	}
	w[num] = &node{Inode: api.Inode{Num: num, Kind: kind, Mode: mode, Target: target, Links: links}}
	return num, 0
}

func (w world) enter(dir int, s string, num int) api.Errno {
	_, e := w.lookup(dir, s)
	d, x := w[dir], w[num]
	switch {
	case d == nil || d.Kind != 2:
		return e
	case wrongName(s) != 0:
		return wrongName(s)
	case e == 0:
		return 202
	case x == nil:
		return 201
	case x.Kind != 2 && x.Links > 63:
		return 210
	case len(d.entries) > 127:
		return 211
	}
	d.entries[s] = num
	if x.Kind != 2 {
		x.Links++
	}
	return 0
}

func (w world) leave(dir int, s string) (int, api.Errno) {
	num, e := w.lookup(dir, s)
	if e != 0 {
		return 0, e
	}
	delete(w[dir].entries, s)
	if w[num].Kind != 2 {
		w[num].Links--
	}
	return num, 0
}

func (w world) drop(num int) api.Errno {
	x := w[num]
	if x == nil {
		return 201
	}
	if num == 1 || len(x.entries) > 0 || w.stands(num) {
		return 215
	}
	delete(w, num)
	return 0
}

func (w world) set(x api.Inode) api.Errno {
	old := w[x.Num]
	if old == nil {
		return 201
	}
	old.Mode, old.Data, old.Attrs = x.Mode, x.Data, x.Attrs
	return 0
}

// list answers a row in new memory: nil of an empty one.
func list[T any](l []T) []T { return append([]T(nil), l...) }

// bare answers a file system in new memory, with nil for each empty list.
func bare(f api.Fs) api.Fs {
	f.Inodes = list(f.Inodes)
	for i, x := range f.Inodes {
		x.Data, x.Names, x.Nums, x.Attrs = list(x.Data), list(x.Names), list(x.Nums), list(x.Attrs)
		for j, a := range x.Attrs {
			x.Attrs[j] = api.Attr{Name: a.Name, Value: list(a.Value)}
		}
		f.Inodes[i] = x
	}
	return f
}
