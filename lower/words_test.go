package lower_test

import (
	"encoding/binary"
	"math"
	"strings"
	"unicode/utf8"

	"palimpsest/api"
)

// Chapter 16 once more, in this test's own words and by the library: which file systems may be, and how they are written and read.

// script is bytes that are written.
type script []byte

func (s *script) number(l ...int) {
	for _, x := range l {
		*s = binary.AppendUvarint(*s, uint64(x))
	}
}

func (s *script) text(t string) {
	s.number(len(t))
	*s = append(*s, t...)
}

// write answers the bytes of a file system, even of one that may not be.
func write(f api.Fs) []byte {
	s := script("PLLW")
	s.number(len(f.Inodes))
	for _, x := range f.Inodes {
		s.number(int(x.Kind), x.Mode)
		s.text(x.Target)
		s.number(len(x.Attrs))
		for _, a := range x.Attrs {
			s.text(a.Name)
			s.text(string(a.Value))
		}
		if x.Kind == 1 {
			s.text(string(x.Data))
		}
		if x.Kind == 2 {
			s.number(len(x.Names))
			for _, n := range x.Names {
				s.text(n)
			}
			s.number(x.Nums...)
		}
	}
	return s
}

// tape is bytes that are read: cut, once there are too few, or a number is none.
type tape struct {
	b   []byte
	cut bool
}

func (t *tape) number() int {
	x, n := binary.Uvarint(t.b)
	if n <= 0 || x > math.MaxInt32 || len(binary.AppendUvarint(nil, x)) != n {
		t.cut, t.b = true, nil
		return 0
	}
	t.b = t.b[n:]
	return int(x)
}

func (t *tape) bytes(n int) []byte {
	if n > len(t.b) {
		t.cut, t.b = true, nil
		return nil
	}
	b := t.b[:n]
	t.b = t.b[n:]
	return b
}

func (t *tape) text() string { return string(t.bytes(t.number())) }

// times does something as often as a number says, while there are bytes.
func (t *tape) times(n int, do func(i int)) {
	for i := 0; i < n && !t.cut; i++ {
		do(i)
	}
}

// read answers the file system of bytes, and whether there is one that may be, with nothing but noughts behind.
func read(b []byte) (api.Fs, bool) {
	t := &tape{b: b}
	if string(t.bytes(4)) != "PLLW" {
		return api.Fs{}, false
	}
	var f api.Fs
	t.times(t.number(), func(i int) {
		x := api.Inode{Num: i + 1, Kind: api.Kind(t.number()), Mode: t.number(), Target: t.text()}
		t.times(t.number(), func(int) {
			x.Attrs = append(x.Attrs, api.Attr{Name: t.text(), Value: []byte(t.text())})
		})
		if x.Kind == 1 {
			x.Data = []byte(t.text())
		}
		if x.Kind == 2 {
			t.times(t.number(), func(int) { x.Names = append(x.Names, t.text()) })
			t.times(len(x.Names), func(int) { x.Nums = append(x.Nums, t.number()) })
		}
		f.Inodes = append(f.Inodes, x)
	})
	if t.cut || strings.Trim(string(t.b), "\x00") != "" {
		return api.Fs{}, false
	}
	f = linked(api.Fs{Inodes: f.Inodes, Next: len(f.Inodes) + 1})
	return f, may(f)
}

// places answers how often each number stands in directories.
func places(f api.Fs) map[int]int {
	n := map[int]int{}
	for _, x := range f.Inodes {
		for _, num := range x.Nums {
			n[num]++
		}
	}
	return n
}

// linked answers a file system whose Links are right, if they can be.
func linked(f api.Fs) api.Fs {
	n := places(f)
	for i := range f.Inodes {
		x := &f.Inodes[i]
		x.Links = 1
		if x.Kind != 2 {
			x.Links = n[x.Num]
		}
	}
	return f
}

// all tells whether each thing that is said is so.
func all(said ...bool) bool {
	for _, so := range said {
		if !so {
			return false
		}
	}
	return true
}

func from(least, x, most int) bool { return x >= least && x <= most }

func mayNames(l []string) bool {
	for i, s := range l {
		if !all(from(1, len(s), 100), s != ".", s != "..", utf8.ValidString(s), !strings.ContainsAny(s, "/\x00")) {
			return false
		}
		if i > 0 && strings.Compare(l[i-1], s) >= 0 {
			return false
		}
	}
	return true
}

// mayInode tells whether one of n inodes may be, but for where it stands.
func mayInode(x api.Inode, n int) bool {
	var names []string
	so := true
	for _, a := range x.Attrs {
		names = append(names, a.Name)
		so = so && len(a.Value) <= 256
	}
	for _, num := range x.Nums {
		so = so && from(1, num, n)
	}
	so = so && all(from(0, x.Mode, 4095), len(names) <= 8, mayNames(names), len(x.Data) <= 32768, len(x.Names) <= 128, mayNames(x.Names), len(x.Nums) == len(x.Names))
	switch x.Kind {
	case 1:
		return all(so, from(1, x.Links, 64), x.Target == "", len(x.Names) == 0)
	case 2:
		return all(so, x.Links == 1, x.Target == "", len(x.Data) == 0)
	case 3:
		return all(so, from(1, x.Links, 64), from(1, len(x.Target), 1000), !strings.Contains(x.Target, "\x00"), len(x.Data) == 0, len(x.Names) == 0)
	}
	return false
}

// may tells whether a file system may be.
func may(f api.Fs) bool {
	n := len(f.Inodes)
	if !from(1, n, 512) || f.Next != n+1 || f.Inodes[0].Kind != 2 {
		return false
	}
	for i, x := range f.Inodes {
		if x.Num != i+1 || !mayInode(x, n) {
			return false
		}
	}
	stands := places(f)
	for _, x := range f.Inodes {
		want := x.Links
		if x.Num == 1 {
			want = 0
		}
		if stands[x.Num] != want {
			return false
		}
	}
	return len(reached(f)) == n
}

// reached answers the numbers of the inodes that can be reached: those that stand in one that can, till there are no more of them.
func reached(f api.Fs) map[int]bool {
	in := map[int]bool{1: true}
	for last := 0; last < len(in); {
		last = len(in)
		for _, x := range f.Inodes {
			for _, num := range x.Nums {
				if in[x.Num] {
					in[num] = true
				}
			}
		}
	}
	return in
}

// list answers a row in new memory: nil of an empty one.
func list[T any](l []T) []T { return append([]T(nil), l...) }

// plain answers a file system in new memory, with nil for each empty list.
func plain(f api.Fs) api.Fs {
	f.Inodes = list(f.Inodes)
	for i, x := range f.Inodes {
		x.Data, x.Names, x.Nums, x.Attrs = list(x.Data), list(x.Names), list(x.Nums), list(x.Attrs)
		for j, a := range x.Attrs {
			x.Attrs[j] = api.Attr{Name: a.Name, Value: list(a.Value)}
		}
		f.Inodes[i] = x
	}
	return f
}
