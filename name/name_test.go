package name_test

import (
	"slices"
	"strings"
	"testing"
	"unicode/utf8"

	"palimpsest/api"
	"palimpsest/name"
)

// texts answers all texts of at most n of the given pieces.
func texts(n int, pieces ...string) []string {
	all := []string{""}
	last := all
	for range n {
		var longer []string
		for _, s := range last {
			for _, p := range pieces {
				longer = append(longer, s+p)
			}
		}
		all = append(all, longer...)
		last = longer
	}
	return all
}

// P1.1

func TestCheck(t *testing.T) {
	for _, c := range []struct {
		s string
		e api.Errno
	}{
		{"a", api.OK},
		{"motd", api.OK},
		{"...", api.OK},
		{".a", api.OK},
		{"a.", api.OK},
		{" ", api.OK},
		{"\x01\x7f\n\"\\", api.OK},
		{"\u00e9\U0010ffff", api.OK},
		{"\ufffd", api.OK},
		{strings.Repeat("a", api.MaxName), api.OK},
		{strings.Repeat("\u00e9", api.MaxName/2), api.OK},
		{"", api.ErrInval},
		{".", api.ErrInval},
		{"..", api.ErrInval},
		{"/", api.ErrInval},
		{"a/b", api.ErrInval},
		{"a/", api.ErrInval},
		{"\x00", api.ErrInval},
		{"a\x00b", api.ErrInval},
		{"\xff", api.ErrInval},
		{"a\xc3", api.ErrInval},
		{"\xa9a", api.ErrInval},
		{"\ufffd\xff", api.ErrInval},
		{"\xed\xa0\x80", api.ErrInval},     // half of a pair
		{"\xc0\xaf", api.ErrInval},         // a stroke in two bytes
		{"\xf4\x90\x80\x80", api.ErrInval}, // past the last rune
		{strings.Repeat("a", api.MaxName-1) + "/", api.ErrInval},
		{strings.Repeat("a", api.MaxName+1), api.ErrNameLong},
		{strings.Repeat("\u00e9", api.MaxName/2+1), api.ErrNameLong},
		// Of several errors the one that is named first.
		{strings.Repeat("a", api.MaxName) + "/", api.ErrNameLong},
		{strings.Repeat("\x00", api.MaxName+1), api.ErrNameLong},
		{strings.Repeat("\xff", api.MaxName+1), api.ErrNameLong},
		{strings.Repeat(".", api.MaxName+1), api.ErrNameLong},
	} {
		if e := name.Check(c.s); e != c.e {
			t.Errorf("Check(%q): %d, not %d", c.s, e, c.e)
		}
	}
}

func TestCheckByBytes(t *testing.T) {
	for _, s := range texts(4, ".", "/", "\x00", "a", "\xc3", "\xa9", "\ufffd") {
		legal := s != "" && s != "." && s != ".." && utf8.ValidString(s) && !strings.ContainsAny(s, "/\x00")
		if e := name.Check(s); legal != (e == api.OK) || !legal && e != api.ErrInval {
			t.Errorf("Check(%q): %d", s, e)
		}
	}
}

// P1.2

func TestSplit(t *testing.T) {
	long := strings.Repeat("n", api.MaxName)
	for _, c := range []struct {
		s   string
		l   []string
		dir bool
	}{
		{"/a//./b/", []string{"a", "b"}, true},
		{"/", nil, true},
		{"//", nil, true},
		{"/.", nil, true},
		{"/./", nil, true},
		{"/./.", nil, true},
		{"/a", []string{"a"}, false},
		{"//a", []string{"a"}, false},
		{"/a/", []string{"a"}, true},
		{"/a//", []string{"a"}, true},
		{"/a/.", []string{"a"}, true},
		{"/a/./", []string{"a"}, true},
		{"/a.", []string{"a."}, false},
		{"/.a", []string{".a"}, false},
		{"/...", []string{"..."}, false},
		{"/..", []string{".."}, false},
		{"/../", []string{".."}, true},
		{"/../.", []string{".."}, true},
		{"/a/..", []string{"a", ".."}, false},
		{"/../../a/../b", []string{"..", "..", "a", "..", "b"}, false},
		{"/a/./b", []string{"a", "b"}, false},
		{"/\u00e9/\ufffd", []string{"\u00e9", "\ufffd"}, false},
		{"/a/a", []string{"a", "a"}, false},
		{"/ /\n", []string{" ", "\n"}, false},
		{"/" + long, []string{long}, false},
		{strings.Repeat("/a", api.MaxPath/2), slices.Repeat([]string{"a"}, api.MaxPath/2), false},
		{strings.Repeat("/", api.MaxPath), nil, true},
	} {
		l, dir, e := name.Split(c.s)
		if !slices.Equal(l, c.l) || dir != c.dir || e != api.OK {
			t.Errorf("Split(%q): %q, %v, %d", c.s, l, dir, e)
		}
	}
}

func TestSplitRefuses(t *testing.T) {
	long := strings.Repeat("n", api.MaxName+1)
	for _, c := range []struct {
		s string
		e api.Errno
	}{
		{"", api.ErrInval},
		{"a", api.ErrInval},
		{".", api.ErrInval},
		{"..", api.ErrInval},
		{"./a", api.ErrInval},
		{" /a", api.ErrInval},
		{"\\a", api.ErrInval},
		{"/a\x00", api.ErrInval},
		{"/\xff/a", api.ErrInval},
		{"/a/\xc3/", api.ErrInval},
		{"/a\x00/", api.ErrInval},
		{"/" + long, api.ErrNameLong},
		{"/a/" + long + "/", api.ErrNameLong},
		// Of names that are refused the first one decides.
		{"/" + long + "/\x00", api.ErrNameLong},
		{"/\x00/" + long, api.ErrInval},
		{"/../" + long + "/\xff/", api.ErrNameLong},
		// Ahead of the names stand the path's length and its first byte.
		{"/" + strings.Repeat("/", api.MaxPath), api.ErrNameLong},
		{strings.Repeat("a", api.MaxPath+1), api.ErrNameLong},
		{strings.Repeat("\x00/", api.MaxPath), api.ErrNameLong},
		{"/\x00" + strings.Repeat("/", api.MaxPath), api.ErrNameLong},
		{"a/" + long, api.ErrInval},
		{strings.Repeat("a", api.MaxPath), api.ErrInval},
	} {
		l, dir, e := name.Split(c.s)
		if len(l) != 0 || dir || e != c.e {
			t.Errorf("Split(%q): %q, %v, %d, not %d", c.s, l, dir, e, c.e)
		}
	}
}

func TestSplitByPieces(t *testing.T) {
	for _, s := range texts(6, "/", ".", "a", "\x00") {
		l, dir, e := name.Split(s)
		var want []string
		fault := api.OK
		if !strings.HasPrefix(s, "/") {
			fault = api.ErrInval
		}
		for _, n := range strings.FieldsFunc(s, func(r rune) bool { return r == '/' }) {
			if strings.Contains(n, "\x00") {
				fault = api.ErrInval
			}
			if n != "." {
				want = append(want, n)
			}
		}
		must := strings.HasSuffix(s, "/") || strings.HasSuffix(s, "/.")
		if fault != api.OK {
			want, must = nil, false
		}
		if !slices.Equal(l, want) || dir != must || e != fault {
			t.Errorf("Split(%q): %q, %v, %d", s, l, dir, e)
		}
	}
}

func TestSplitIsNewEachTime(t *testing.T) {
	l, _, _ := name.Split("/a/b")
	l[0] = "x"
	if m, _, _ := name.Split("/a/b"); !slices.Equal(m, []string{"a", "b"}) {
		t.Errorf("%q", m)
	}
}

func TestJoin(t *testing.T) {
	for _, c := range []struct {
		l []string
		s string
	}{
		{nil, "/"},
		{[]string{}, "/"},
		{[]string{"a"}, "/a"},
		{[]string{"a", "b", "c"}, "/a/b/c"},
		{[]string{"..", "a"}, "/../a"},
		{[]string{""}, "/"},
		{[]string{"", ""}, "//"},
		{[]string{"a/b", "\xff"}, "/a/b/\xff"},
	} {
		if s := name.Join(c.l); s != c.s {
			t.Errorf("Join(%q): %q", c.l, s)
		}
	}
	l := []string{"a", "b"}
	if name.Join(l[:1]) != "/a" || !slices.Equal(l, []string{"a", "b"}) {
		t.Errorf("%q", l)
	}
}

// P1.3

func TestCount(t *testing.T) {
	for _, c := range []struct {
		s string
		n int
	}{
		{"", 0},
		{"a", 1},
		{"a\x00b", 3},
		{"\u00e9x", 2},
		{"\u20ac\U0001f600", 2},
		{"e\u0301", 2},
		{"\ufffd", 1},
		{"\xff", 1},
		{"\xff\xfe", 2},
		{"\xc3\xc3\xa9", 2},
		{"\xe4\xbd", 2},
		{"\xed\xa0\x80", 3},
		{"\xf4\x90\x80\x80", 4},
		{strings.Repeat("\u00e9\xa9", 5000), 10000},
	} {
		if n := name.Count(c.s); n != c.n {
			t.Errorf("Count(%q): %d", c.s, n)
		}
	}
}

func TestOrder(t *testing.T) {
	for _, c := range []struct {
		a, b string
		n    int
	}{
		{"", "", 0},
		{"", "a", -1},
		{"a", "b", -1},
		{"a", "a", 0},
		{"a", "ab", -1},
		{"b", "ab", 1},
		{"B", "a", -1},
		{"a10", "a9", -1},
		{"\x00", "", 1},
		{"z", "\u00e9", -1},
		{"\uffff", "\U00010000", -1},
		{"\u00e9", "\u00e9", 0},
		// A byte that is none of UTF-8's is as 0xfffd, whatever the byte is.
		{"\x80", "\u20ac", 1},
		{"\xff", "\U00010000", -1},
		{"\xff", "\ufffe", -1},
		{"\x80", "\ufffc", 1},
		{"\xffa", "\x80b", -1},
		{"\xff", "\x80\x80", -1},
		{"\x80", "\ufffdx", -1},
		{"\xed\xa0\x80", "\ufffd", 1},
		// Those that are then alike go by their bytes.
		{"\x80", "\xff", -1},
		{"\xff", "\ufffd", 1},
		{"\x80", "\ufffd", -1},
		{"a\x80b", "a\ufffdb", -1},
		{"\xff", "\xff", 0},
		{"\xef\xbf", "\ufffd\xff", -1},
	} {
		if n := name.Order(c.a, c.b); n != c.n {
			t.Errorf("Order(%q, %q): %d", c.a, c.b, n)
		}
		if n := name.Order(c.b, c.a); n != -c.n {
			t.Errorf("Order(%q, %q): %d", c.b, c.a, n)
		}
	}
}

func TestOrderByRunes(t *testing.T) {
	all := texts(3, "\x00", "a", "\u00e9", "\xc3", "\xa9", "\xef\xbf", "\ufffd", "\U00010000")
	for _, a := range all {
		for _, b := range all {
			want := slices.Compare([]rune(a), []rune(b))
			if want == 0 {
				want = strings.Compare(a, b)
			}
			if n := name.Order(a, b); n != want {
				t.Fatalf("Order(%q, %q): %d", a, b, n)
			}
		}
	}
}

// P1.4

func TestQuote(t *testing.T) {
	for _, c := range []struct{ s, q string }{
		{"", `""`},
		{"a b", `"a b"`},
		{" !~", `" !~"`},
		{"\u00e9\t", `"\u{e9}\u{9}"`},
		{`"`, `"\""`},
		{`\`, `"\\"`},
		{`\"'/`, `"\\\"'/"`},
		{"\x00", `"\u{0}"`},
		{"\x1f\x7f\u0080", `"\u{1f}\u{7f}\u{80}"`},
		{"\n\x10", `"\u{a}\u{10}"`},
		{"\u20ac\U0010ffff", `"\u{20ac}\u{10ffff}"`},
		{"\ufffd", `"\u{fffd}"`},
		{"\x80\xff", `"\x80\xff"`},
		{"\xc3\xc3\xa9", `"\xc3\u{e9}"`},
		{"\ufffd\xef\xbf", `"\u{fffd}\xef\xbf"`},
		{"\xef\xbf\ufffd", `"\xef\xbf\u{fffd}"`},
		{"\xed\xa0\x80", `"\xed\xa0\x80"`},
		{`\x80\u{9}`, `"\\x80\\u{9}"`},
	} {
		if q := name.Quote(c.s); q != c.q {
			t.Errorf("Quote(%q): %s", c.s, q)
		}
		if s, ok := name.Unquote(c.q); s != c.s || !ok {
			t.Errorf("Unquote(%s): %q, %v", c.q, s, ok)
		}
	}
}

func TestUnquoteRefuses(t *testing.T) {
	for _, q := range []string{
		``, `"`, `a`, `a"`, `"a`, `a""`, `""a`, ` ""`, `"" `,
		`"""`, `"a"b"`, `"\"`, `"\\\"`, `"\`, `'a'`, "`a`",
		"\"\u00e9\"", "\"\t\"", "\"\x00\"", "\"\x7f\"", "\"\xff\"", "\"\n\"",
		`"\a"`, `"\n"`, `"\'"`, `"\0"`, `"\/"`,
		`"\u"`, `"\u{"`, `"\u{}"`, `"\u{e9"`, `"\u{e9}`, `"\ue9"`, `"\u{e9]"`, `"\u00e9"`, `"\U{e9}"`,
		`"\u{0e9}"`, `"\u{00}"`, `"\u{E9}"`, `"\u{+9}"`, `"\u{-9}"`, `"\u{ 9}"`, `"\u{9 }"`, `"\u{0x9}"`, `"\u{1_0}"`, `"\u{g}"`,
		`"\u{61}"`, `"\u{20}"`, `"\u{7e}"`, `"\u{22}"`, `"\u{5c}"`,
		`"\u{d800}"`, `"\u{dfff}"`, `"\u{110000}"`, `"\u{1fffff}"`, `"\u{ffffffff}"`, `"\u{1000000e9}"`, `"\u{100000000000000e9}"`,
		`"\x"`, `"\x8"`, `"\xf`, `"\xFF"`, `"\xfg"`, `"\x+8"`, `"\x00"`, `"\x7f"`, `"\x61"`, `"\x{ff}"`, `"\X80"`,
		`"\xc3\xa9"`, `"\xef\xbf\xbd"`, `"\xf4\x8f\xbf\xbf"`,
	} {
		if s, ok := name.Unquote(q); s != "" || ok {
			t.Errorf("Unquote(%s): %q, %v", q, s, ok)
		}
	}
}

func TestUnquoteByQuote(t *testing.T) {
	wants := map[string]string{}
	for _, s := range texts(2, "\x09", "\"", "\\", "9", "u", "x", "{", "}", "\x89", "\x99", "\u0099") {
		wants[name.Quote(s)] = s
	}
	for _, in := range texts(7, `"`, `\`, `9`, `u`, `x`, `{`, `}`) {
		q := `"` + in + `"`
		s, ok := name.Unquote(q)
		if ok && name.Quote(s) != q || !ok && s != "" {
			t.Errorf("Unquote(%s): %q, %v", q, s, ok)
		}
		if want, known := wants[q]; known && (s != want || !ok) {
			t.Errorf("Unquote(%s): %q, %v, not %q", q, s, ok, want)
		}
	}
}

// P1.5

func TestSplitOfJoin(t *testing.T) {
	names := []string{"a", "..", "...", "\u00e9 \n", "\ufffd", strings.Repeat("n", api.MaxName)}
	for _, a := range names {
		for _, b := range names {
			for _, l := range [][]string{nil, {a}, {a, b}, {a, b, a}} {
				m, dir, e := name.Split(name.Join(l))
				if !slices.Equal(l, m) || dir != (len(l) == 0) || e != api.OK {
					t.Errorf("%q: %q, %v, %d", l, m, dir, e)
				}
			}
		}
	}
}

func TestUnquoteOfQuote(t *testing.T) {
	all := texts(4, "a", "\"", "\\", "\x00", "\x7f", "\u00e9", "\xc3", "\xa9", "\ufffd", "\U0010ffff")
	for b := range 256 {
		all = append(all, string([]byte{byte(b)}), string([]byte{'a', byte(b), 0xbf}))
	}
	for r := range rune(utf8.MaxRune + 2) {
		all = append(all, string(r))
	}
	for _, s := range all {
		q := name.Quote(s)
		if u, ok := name.Unquote(q); u != s || !ok {
			t.Errorf("%q: %s: %q, %v", s, q, u, ok)
		}
	}
}
