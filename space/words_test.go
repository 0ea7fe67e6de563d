package space_test

import (
	"math"
	"slices"
	"strings"

	"palimpsest/api"
)

// What the chapter says, in these tests' own words: a row as a text, a free slot a point, a taken one an x.

// slots is the longest row that there is.
const slots = 4096

// row answers the slots that a text is.
func row(s string) []bool {
	l := make([]bool, len(s))
	for i, c := range []byte(s) {
		l[i] = c == 'x'
	}
	return l
}

// text answers a row as a text.
func text(l []bool) string {
	b := make([]byte, len(l))
	for i, taken := range l {
		b[i] = '.'
		if taken {
			b[i] = 'x'
		}
	}
	return string(b)
}

// changed answers a text with n slots in another way from at on.
func changed(s string, at, n int, to string) string {
	return s[:at] + strings.Repeat(to, n) + s[at+n:]
}

func takeByWords(s string, n int) (int, string, api.Errno) {
	if len(s) > slots || n < 1 {
		return 0, s, api.ErrArg
	}
	// As many as one more than there are slots stand nowhere, as little as any more.
	at := strings.Index(s, strings.Repeat(".", min(n, slots+1)))
	if at < 0 {
		return 0, s, api.ErrFull
	}
	return at, changed(s, at, n, "x"), api.OK
}

func giveByWords(s string, at, n int) (string, api.Errno) {
	switch {
	case len(s) > slots, n < 1, n > len(s), at < 0, at > len(s):
		return s, api.ErrArg
	case !strings.HasPrefix(s[at:], strings.Repeat("x", n)):
		return s, api.ErrArg
	}
	return changed(s, at, n, "."), api.OK
}

func setByWords(n int, taken []int) (string, api.Errno) {
	if n < 0 || n > slots {
		return "", api.ErrArg
	}
	l := slices.Sorted(slices.Values(taken))
	if len(slices.Compact(slices.Clone(l))) < len(l) || len(l) > 0 && (l[0] < 0 || l[len(l)-1] >= n) {
		return "", api.ErrArg
	}
	s := strings.Repeat(".", n)
	for _, at := range l {
		s = changed(s, at, 1, "x")
	}
	return s, api.OK
}

func freeByWords(s string) int {
	if len(s) > slots {
		return 0
	}
	return strings.Count(s, ".")
}

func longestByWords(s string) int {
	if len(s) > slots {
		return 0
	}
	longest := 0
	for _, run := range strings.Split(s, "x") {
		longest = max(longest, len(run))
	}
	return longest
}

// short answers all rows of up to n slots.
func short(n int) []string {
	all := []string{""}
	for from := 0; from < len(all) && len(all[from]) < n; from++ {
		all = append(all, all[from]+".", all[from]+"x")
	}
	return all
}

// far answers numbers that no row has as its places or counts, and such as would go round.
func far() []int {
	return []int{
		math.MinInt, math.MinInt + 1, math.MinInt + slots, math.MinInt32, -1 << 16, -slots - 1, -slots, -2, -1,
		slots + 1, slots + 2, 2 * slots, 1 << 16, math.MaxInt32, 1 << 32, math.MaxInt - slots, math.MaxInt - slots - 1, math.MaxInt - 2, math.MaxInt - 1, math.MaxInt,
	}
}
