// Package name is layer 1: see shared/doc/01-name.md.
package name

import (
	"cmp"
	"strconv"
	"strings"
	"unicode/utf8"

	"palimpsest/api"
)

// Check tells why a name may not be.
func Check(s string) api.Errno {
	switch {
	case s == "":
		return api.ErrInval
	case len(s) > api.MaxName:
		return api.ErrNameLong
	case s == "." || s == "..":
		return api.ErrInval
	}
	for i, r := range s {
		if r == '/' || r == 0 || stray(r, s[i:]) {
			return api.ErrInval
		}
	}
	return api.OK
}

// Split answers a path's names, and whether it must be a directory's.
func Split(s string) ([]string, bool, api.Errno) {
	switch {
	case s == "":
		return nil, false, api.ErrInval
	case len(s) > api.MaxPath:
		return nil, false, api.ErrNameLong
	case s[0] != '/':
		return nil, false, api.ErrInval
	}
	var l []string
names:
	for _, n := range strings.Split(s, "/") {
		switch n {
		case "", ".":
			continue names
		case "..":
			// No inode may have it, so Check refuses it; in a path it leads up.
		default:
			if e := Check(n); e != api.OK {
				return nil, false, e
			}
		}
		l = append(l, n)
	}
	return l, strings.HasSuffix(s, "/") || strings.HasSuffix(s, "/."), api.OK
}

// Join answers a path.
func Join(l []string) string {
	if len(l) == 0 {
		return "/"
	}
	var out strings.Builder
	for _, n := range l {
		out.WriteByte('/')
		out.WriteString(n)
	}
	return out.String()
}

// Count counts runes.
func Count(s string) int {
	n := 0
	for range s {
		n++
	}
	return n
}

// Order compares texts by their runes.
func Order(a string, b string) int {
	rest := b
	for _, r := range a {
		if rest == "" {
			return 1
		}
		q, size := utf8.DecodeRuneInString(rest)
		if r != q {
			return cmp.Compare(r, q)
		}
		rest = rest[size:]
	}
	if rest != "" {
		return -1
	}
	// A byte that is none of UTF-8's looks like 0xfffd: only the bytes tell such texts apart.
	return cmp.Compare(a, b)
}

// Quote writes a text so that it can be seen.
func Quote(s string) string {
	var out strings.Builder
	out.WriteByte('"')
	for i, r := range s {
		switch {
		case stray(r, s[i:]):
			// ASCII is always UTF-8: a stray byte is 0x80 at least, and has two digits.
			out.WriteString(`\x` + strconv.FormatInt(int64(s[i]), 16))
		case r == '"' || r == '\\':
			out.WriteString(`\` + string(r))
		case r >= 32 && r <= 126:
			out.WriteRune(r)
		default:
			out.WriteString(`\u{` + strconv.FormatInt(int64(r), 16) + `}`)
		}
	}
	out.WriteByte('"')
	return out.String()
}

// Unquote reads what Quote wrote.
func Unquote(s string) (string, bool) {
	if len(s) < 2 || s[0] != '"' || s[len(s)-1] != '"' {
		return "", false
	}
	var out strings.Builder
	for rest := s[1 : len(s)-1]; rest != ""; {
		piece, behind, ok := first(rest)
		if !ok {
			return "", false
		}
		out.WriteString(piece)
		rest = behind
	}
	// It may have been written another way than Quote's: with a nought ahead, or with a needless escape.
	if text := out.String(); Quote(text) == s {
		return text, true
	}
	return "", false
}

// first answers what the first byte or escape of a quoted text stands for, and what is behind it. It takes more ways of writing than Quote has: Unquote refuses those.
func first(s string) (string, string, bool) {
	switch {
	case s[0] != '\\':
		return s[:1], s[1:], true
	case strings.HasPrefix(s, `\"`), strings.HasPrefix(s, `\\`):
		return s[1:2], s[2:], true
	case strings.HasPrefix(s, `\u{`):
		digits, behind, closed := strings.Cut(s[len(`\u{`):], "}")
		r, err := strconv.ParseUint(digits, 16, 21)
		return string(rune(r)), behind, closed && err == nil
	case strings.HasPrefix(s, `\x`) && len(s) >= len(`\x80`):
		b, err := strconv.ParseUint(s[len(`\x`):len(`\x80`)], 16, 8)
		return string([]byte{byte(b)}), s[len(`\x80`):], err == nil
	}
	return "", "", false
}

// stray tells whether r, which ranging found at the front of s, stands for a byte that is none of UTF-8's: such a byte is told as 0xfffd, but that is a rune too.
func stray(r rune, s string) bool {
	return r == utf8.RuneError && !strings.HasPrefix(s, string(utf8.RuneError))
}
