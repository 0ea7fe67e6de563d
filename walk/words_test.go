package walk_test

import (
	"cmp"
	"fmt"
	"maps"
	"slices"
	"strings"
	"unicode/utf8"

	"palimpsest/api"
)

// Chapter 18 once more, in this test's own words: names are gone along one within the other, and what stands above is who was gone through.

// grown answers a file system of lines: a number, a path, and what is there: a stroke behind a path is a directory, an arrow behind it a link, else it is a file. A path that begins with no stroke but a ~ is of nobody's: what stands there cannot be reached. The first directory needs no line, and all others stand ahead of what is in them; one number may have several paths, but for directories.
func grown(lines ...string) api.Fs {
	l := map[int]*api.Inode{1: {Num: 1, Kind: 2, Mode: 493, Links: 1}}
	entries, at := map[int]map[string]int{}, map[string]int{"": 1}
	for _, line := range lines {
		var num int
		words := strings.SplitN(line, " ", 4)
		fmt.Sscan(words[0], &num)
		path, dir := strings.CutSuffix(words[1], "/")
		x := &api.Inode{Num: num, Kind: 1, Data: []byte(path)}
		if dir {
			x.Kind, x.Data, x.Links = 2, nil, 1
			at[path] = num
		} else if len(words) == 4 {
			x.Kind, x.Data, x.Target = 3, nil, words[3]
		}
		if l[num] == nil {
			l[num] = x
		}
		if i := strings.LastIndex(path, "/"); i >= 0 {
			up := at[path[:i]]
			if entries[up] == nil {
				entries[up] = map[string]int{}
			}
			entries[up][path[i+1:]] = num
			if !dir {
				l[num].Links++
			}
		}
	}
	f := api.Fs{Next: 2}
	for _, num := range slices.Sorted(maps.Keys(l)) {
		x := *l[num]
		for _, s := range slices.Sorted(maps.Keys(entries[num])) {
			x.Names, x.Nums = append(x.Names, s), append(x.Nums, entries[num][s])
		}
		f.Inodes = append(f.Inodes, x)
	}
	return f
}

// node is an inode whose entries stand in a map.
type node struct {
	kind    api.Kind
	target  string
	entries map[string]int
}

// world is a file system's nodes by their numbers.
type world map[int]node

// open answers the nodes of a file system.
func open(f api.Fs) world {
	w := world{}
	for _, x := range f.Inodes {
		w[x.Num] = node{x.Kind, x.Target, map[string]int{}}
		for i, s := range x.Names {
			w[x.Num].entries[s] = x.Nums[i]
		}
	}
	return w
}

// split answers the names of a path, and whether it must be a directory's.
func split(s string) ([]string, bool, api.Errno) {
	if s == "" || len(s) > 1000 || s[0] != '/' {
		return nil, false, map[bool]api.Errno{true: 208, false: 206}[len(s) > 1000]
	}
	l := slices.DeleteFunc(strings.Split(s, "/"), func(n string) bool { return n == "" || n == "." })
	for _, n := range l {
		if len(n) > 100 {
			return nil, false, 208
		}
		if !utf8.ValidString(n) || strings.Contains(n, "\x00") {
			return nil, false, 206
		}
	}
	return l, slices.Contains([]string{"", "."}, s[strings.LastIndex(s, "/")+1:]), 0
}

// trip is a walk: who was gone through, from the first directory on, what the last name was, and what is left.
type trip struct {
	through []int
	last    api.Place
	rest    []string
	must    bool
	links   int
}

// walk answers where a path leads, in a file system that may be.
func (w world) walk(path string, follow bool) (api.Place, api.Errno) {
	l, must, e := split(path)
	if e != 0 {
		return api.Place{}, e
	}
	return w.onward(trip{[]int{1}, api.Place{Dir: 1, Num: 1}, l, must, 0}, follow)
}

// onward goes along one name, and, behind it, along the others.
func (w world) onward(t trip, follow bool) (api.Place, api.Errno) {
	here := t.through[len(t.through)-1]
	if w[here].kind != 2 && (t.must || len(t.rest) > 0) {
		return api.Place{}, 203
	}
	if len(t.rest) == 0 {
		t.last.MustDir = t.must
		return t.last, 0
	}
	s := t.rest[0]
	t.rest = t.rest[1:]
	if s == ".." {
		t.through = t.through[:max(1, len(t.through)-1)]
		up := t.through[len(t.through)-1]
		t.last = api.Place{Dir: up, Num: up}
		return w.onward(t, follow)
	}
	num, has := w[here].entries[s]
	switch {
	case !has && len(t.rest) > 0:
		return api.Place{}, 201
	case !has:
		return api.Place{Dir: here, Name: s, MustDir: t.must}, 0
	case w[num].kind == 3 && (len(t.rest) > 0 || follow || t.must):
		return w.followed(t, w[num].target, follow)
	}
	t.through = append(slices.Clone(t.through), num)
	t.last = api.Place{Dir: here, Name: s, Num: num}
	return w.onward(t, follow)
}

// followed goes along a link's target, and, behind it, along what is left.
func (w world) followed(t trip, target string, follow bool) (api.Place, api.Errno) {
	t.links++
	if t.links == 9 {
		return api.Place{}, 209
	}
	if target[0] == '/' {
		t.through, t.last = []int{1}, api.Place{Dir: 1, Num: 1}
	} else {
		target = "/" + target
	}
	l, must, e := split(target)
	if e != 0 {
		return api.Place{}, e
	}
	if len(t.rest) == 0 && must {
		t.must = true
	}
	t.rest = slices.Concat(l, t.rest)
	return w.onward(t, follow)
}

// paths answers the paths of all that can be reached, by their directories' paths, each directory ahead of what is in it.
func (w world) paths() map[string]int {
	all := map[string]int{}
	var in func(num int, path string)
	in = func(num int, path string) {
		all[cmp.Or(path, "/")] = num
		for s, x := range w[num].entries {
			in(x, path+"/"+s)
		}
	}
	in(1, "")
	return all
}

// path answers the path of a directory.
func (w world) path(num int) string {
	if w[num].kind == 2 {
		for path, x := range w.paths() {
			if x == num {
				return path
			}
		}
	}
	return ""
}

// below answers a directory and all directories that stand below it.
func (w world) below(dir int) []int {
	var all []int
	if w[dir].kind == 2 {
		all = append(all, dir)
	}
	for _, x := range w[dir].entries {
		all = append(all, w.below(x)...)
	}
	return all
}

// list answers a row in new memory: nil of an empty one.
func list[T any](l []T) []T { return append([]T(nil), l...) }

// bare answers a file system in new memory, with nil for each empty list.
func bare(f api.Fs) api.Fs {
	f.Inodes = list(f.Inodes)
	for i, x := range f.Inodes {
		x.Data, x.Names, x.Nums, x.Attrs = list(x.Data), list(x.Names), list(x.Nums), list(x.Attrs)
		for j, a := range x.Attrs {
			x.Attrs[j] = api.Attr{Name: a.Name, Value: list(a.Value)}
		}
		f.Inodes[i] = x
	}
	return f
}
