package text

import (
	"math"
	"strings"
	"testing"
	"unicode/utf16"
	"unicode/utf8"

	"ossuary/api"
)

// units builds a string of units from their numbers.
func units(l ...uint16) string {
	var b []byte
	for _, u := range l {
		b = append(b, byte(u>>8), byte(u))
	}
	return string(b)
}

func TestOf(t *testing.T) {
	for _, c := range []struct{ in, want string }{
		{"", ""},
		{"a", "\x00a"},
		{"aé€", units('a', 0xE9, 0x20AC)},
		{"\x00\x7f", units(0, 0x7F)},
		{"\uD7FF\uE000\uFFFD\uFFFF", units(0xD7FF, 0xE000, 0xFFFD, 0xFFFF)},
		{"\U00010000", units(0xD800, 0xDC00)},
		{"\U0001F600", units(0xD83D, 0xDE00)},
		{"\U0010FFFF", units(0xDBFF, 0xDFFF)},
		{"\x80", units(0xFFFD)},
		{"a\xff\xfeb", units('a', 0xFFFD, 0xFFFD, 'b')},
		{"\xED\xA0\x80", units(0xFFFD, 0xFFFD, 0xFFFD)},
		{"\xE2\x82", units(0xFFFD, 0xFFFD)},
		{"\xC0\x80", units(0xFFFD, 0xFFFD)},
		{"\xF4\x90\x80\x80", units(0xFFFD, 0xFFFD, 0xFFFD, 0xFFFD)},
	} {
		if got := Of(c.in); got != c.want {
			t.Errorf("Of(%q) = %x, not %x", c.in, got, c.want)
		}
	}
}

func TestOfAgreesWithTheLibrary(t *testing.T) {
	for r := rune(0); r <= utf8.MaxRune; r += 7 {
		s := string(r)
		if got := Of("x" + s); got != units(append([]uint16{'x'}, utf16.Encode([]rune(s))...)...) {
			t.Fatalf("Of of %x = %x", r, got)
		}
	}
}

func TestLenAndAt(t *testing.T) {
	s := units('a', 0xD83D, 0xDE00)
	if Len(s) != 3 || Len("") != 0 {
		t.Errorf("Len = %d, %d", Len(s), Len(""))
	}
	for i, want := range map[int]uint16{0: 'a', 1: 0xD83D, 2: 0xDE00, 3: 0, -1: 0, math.MaxInt: 0, math.MinInt: 0, math.MaxInt/2 + 1: 0} {
		if got := At(s, i); got != want {
			t.Errorf("At(%d) = %x, not %x", i, got, want)
		}
	}
}

func TestSub(t *testing.T) {
	s := Of("abcd")
	for _, c := range []struct {
		from, to int
		want     string
	}{
		{0, 4, "abcd"}, {1, 3, "bc"}, {2, 2, ""}, {3, 1, ""}, {-5, 2, "ab"}, {2, 99, "cd"},
		{9, 99, ""}, {-9, -3, ""}, {2, -1, ""}, {math.MinInt, math.MaxInt, "abcd"}, {math.MaxInt, math.MinInt, ""},
	} {
		if got := Sub(s, c.from, c.to); got != Of(c.want) {
			t.Errorf("Sub(%d, %d) = %x, not %q", c.from, c.to, got, c.want)
		}
	}
}

func TestPoint(t *testing.T) {
	s := units('a', 0xD83D, 0xDE00, 0xDE00, 0xD83D, 'b', 0xDBFF, 0xDFFF, 0xD800, 0xDC00, 0xD83D)
	for _, c := range []struct {
		i, n int
		r    rune
	}{
		{0, 1, 'a'}, {1, 2, 0x1F600}, {2, 1, 0xDE00}, {3, 1, 0xDE00}, {4, 1, 0xD83D}, {5, 1, 'b'},
		{6, 2, 0x10FFFF}, {8, 2, 0x10000}, {10, 1, 0xD83D}, {11, 0, 0}, {-1, 0, 0},
		{math.MaxInt, 0, 0}, {math.MinInt, 0, 0},
	} {
		if r, n := Point(s, c.i); r != c.r || n != c.n {
			t.Errorf("Point(%d) = %x, %d", c.i, r, n)
		}
	}
	for _, edge := range [][2]uint16{{0xD7FF, 0xDC00}, {0xDC00, 0xDC00}, {0xD800, 0xDBFF}, {0xD800, 0xE000}} {
		if _, n := Point(units(edge[0], edge[1]), 0); n != 1 {
			t.Errorf("Point of %x has %d units", edge, n)
		}
	}
}

func TestPoints(t *testing.T) {
	s := units('a', 0xD83D, 0xDE00, 0xDE00, 0xD83D)
	want := []string{units('a'), units(0xD83D, 0xDE00), units(0xDE00), units(0xD83D)}
	var got []string
	for c := range Points(s) {
		got = append(got, c)
	}
	if strings.Join(got, "|") != strings.Join(want, "|") {
		t.Errorf("Points = %x", got)
	}
	seen := 0
	for range Points(s) {
		if seen++; seen == 2 {
			break
		}
	}
	if seen != 2 {
		t.Errorf("left after %d", seen)
	}
	for c := range Points("") {
		t.Errorf("Points of nothing yields %x", c)
	}
}

func TestGo(t *testing.T) {
	for _, c := range []struct{ in, want string }{
		{"", ""},
		{Of("aé€\U0001F600"), "aé€\U0001F600"},
		{Of(`a\b`), `a\\b`},
		{Of("\n\x00\x1f \x7f~\u0080"), `\u000A\u0000\u001F \u007F~` + "\u0080"},
		{units(0xD83D, 'x', 0xDE00), `\uD83Dx\uDE00`},
		{units(0xDBFF), `\uDBFF`}, {units(0xDFFF), `\uDFFF`}, {units(0xD800), `\uD800`}, {units(0xDC00), `\uDC00`},
		{units(0xD7FF, 0xE000, 0xFFFF), "\uD7FF\uE000\uFFFF"},
	} {
		if got := Go(c.in); got != c.want {
			t.Errorf("Go(%x) = %q, not %q", c.in, got, c.want)
		}
	}
}

// P2.2: Go is the inverse of Of for valid UTF-8 without \ and control characters.
func TestGoInvertsOf(t *testing.T) {
	for r := rune(32); r <= utf8.MaxRune; r++ {
		if r == '\\' || r == 127 || !utf8.ValidRune(r) {
			continue
		}
		if s := "<" + string(r) + ">"; Go(Of(s)) != s {
			t.Fatalf("Go(Of(%q)) = %q", s, Go(Of(s)))
		}
	}
}

func TestCompare(t *testing.T) {
	ascending := []string{"", units(0), units(0, 'a'), Of("a"), Of("aa"), Of("b"), units(0x100), units(0xD83D, 0xDE00), units(0xE000), units(0xFFFF)}
	for i, a := range ascending {
		for j, b := range ascending {
			want := 0
			if i < j {
				want = -1
			} else if i > j {
				want = 1
			}
			if got := Compare(a, b); got != want {
				t.Errorf("Compare(%x, %x) = %d", a, b, got)
			}
		}
	}
}

func TestJoin(t *testing.T) {
	if s, ok := Join(Of("ab"), Of("c")); s != Of("abc") || !ok {
		t.Errorf("Join = %x, %v", s, ok)
	}
	long := Of(strings.Repeat("x", api.MaxText-1))
	if s, ok := Join(long, Of("y")); Len(s) != api.MaxText || !ok {
		t.Errorf("at the limit: %d, %v", Len(s), ok)
	}
	for _, c := range [][2]string{{long, Of("yz")}, {Of("yz"), long}, {long, long}} {
		if s, ok := Join(c[0], c[1]); s != "" || ok {
			t.Errorf("beyond the limit: %d, %v", Len(s), ok)
		}
	}
}

func TestIndex(t *testing.T) {
	for s, want := range map[string]int{
		"0": 0, "7": 7, "10": 10, "9999": 9999, "10000": -1, "99999": -1, "07": -1, "00": -1, "": -1, "-1": -1,
		"1a": -1, "a": -1, "1 ": -1, " 1": -1, "1.0": -1, "/": -1, ":": -1, "１": -1,
		strings.Repeat("9", 40): -1, "18446744073709551617": -1,
	} {
		if got := Index(Of(s)); got != want {
			t.Errorf("Index(%q) = %d, not %d", s, got, want)
		}
	}
	if got := Index(units('0' + 0x100)); got != -1 {
		t.Errorf("Index of a unit whose low byte is a digit = %d", got)
	}
}

func TestVal(t *testing.T) {
	if v := Val("aé"); v != (api.Val{K: api.Str, S: units('a', 0xE9)}) {
		t.Errorf("Val = %v", v)
	}
}

// P0: no call panics or goes on forever, not even for an odd number of bytes.
func TestNoCallPanics(t *testing.T) {
	for _, s := range []string{"", "a", "\x00", "\xd8\x3d\xde", "\xd8", "\xd8\x3d\xd8", strings.Repeat("\xff", 33)} {
		for i := -2; i < 20; i++ {
			At(s, i)
			Point(s, i)
			Sub(s, i, i+3)
		}
		for range Points(s) {
		}
		Of(s)
		Len(s)
		Go(s)
		Compare(s, "\x00a")
		Join(s, s)
		Index(s)
		Val(s)
	}
}
