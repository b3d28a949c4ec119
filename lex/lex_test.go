package lex

import (
	"math/rand"
	"slices"
	"strconv"
	"strings"
	"testing"

	"ossuary/api"
	"ossuary/text"
)

func scan(t *testing.T, s string) []Token {
	t.Helper()
	l, f := Scan(s)
	if f != (api.Fault{}) || len(l) == 0 {
		t.Fatalf("Scan(%q): fault %v", s, f)
	}
	if last := l[len(l)-1]; last != (Token{Kind: End, At: len(s)}) {
		t.Errorf("Scan(%q) ends with %v", s, last)
	}
	return l[:len(l)-1]
}

func checkFault(t *testing.T, s string, kind api.Errno, at int) {
	t.Helper()
	l, f := Scan(s)
	if f != (api.Fault{Kind: kind, At: at}) || len(l) != 0 {
		t.Errorf("Scan(%.40q): fault %v, %d tokens, not %d at %d", s, f, len(l), kind, at)
	}
}

const words = "break catch class const continue delete do else extends false finally for function if in instanceof let new null return super this throw true try typeof while yield"

const signs = "... === !== && || ?? => ++ -- += -= *= /= %= <= >= ( ) [ ] { } . , ; : ? ! = + - * / % < >"

func TestKinds(t *testing.T) {
	if End != 0 || Name != 1 || Word != 2 || Number != 3 || String != 4 || Sign != 5 {
		t.Error("the numbers of the kinds")
	}
}

func TestWords(t *testing.T) {
	for _, w := range strings.Fields(words) {
		if !IsWord(w) || !slices.Equal(scan(t, w), []Token{{Kind: Word, Text: w}}) {
			t.Errorf("%s is no key word", w)
		}
		for _, other := range []string{w + "1", w[:len(w)-1] + "_", strings.ToUpper(w), "$" + w} {
			if IsWord(other) || !slices.Equal(scan(t, other), []Token{{Kind: Name, Text: other}}) {
				t.Errorf("%s is no name", other)
			}
		}
	}
	for _, s := range []string{"", "static", "of", "async", "await", "var", "arguments", "constructor", "get", "undefined", " if", "if "} {
		if IsWord(s) {
			t.Errorf("%q is a key word", s)
		}
	}
}

func TestNames(t *testing.T) {
	for _, s := range []string{"a", "Z", "_", "$", "z9", "A_$0", "aZ09", strings.Repeat("n", api.MaxName)} {
		if got := scan(t, s); !slices.Equal(got, []Token{{Kind: Name, Text: s}}) {
			t.Errorf("Scan(%q) = %v", s, got)
		}
	}
	long := strings.Repeat("n", api.MaxName+1)
	checkFault(t, long, api.ErrLex, 0)
	checkFault(t, "a "+long, api.ErrLex, 2)
	for _, s := range []string{"é", "@", "`", "#a", "a\x00", "\x80", "^", "~", "|", "&", "\\", "a\\u0061", "\v", "\f", "\u00a0"} {
		at := strings.Index(s, "a") + 1
		if at > 1 {
			at = 0
		}
		checkFault(t, s, api.ErrLex, at)
	}
}

func TestNumbers(t *testing.T) {
	for _, s := range []string{"0", "7", "10", "1234567890", "9007199254740991"} {
		n, _ := strconv.ParseInt(s, 10, 64)
		if got := scan(t, s); !slices.Equal(got, []Token{{Kind: Number, Text: s, N: n}}) {
			t.Errorf("Scan(%q) = %v", s, got)
		}
	}
	for _, s := range []string{"00", "01", "007", "9007199254740992", strings.Repeat("9", 99), "1a", "0x1", "1_0", "1e3", "1$", "1Z"} {
		checkFault(t, s, api.ErrLex, 0)
		checkFault(t, "; "+s, api.ErrLex, 2)
	}
}

func TestStrings(t *testing.T) {
	for _, c := range []struct{ in, units string }{
		{`""`, ""}, {`''`, ""}, {`"a'b"`, text.Of("a'b")}, {`'a"b'`, text.Of(`a"b`)},
		{`"\n\t\0\\\'\""`, text.Of("\n\t\x00\\'\"")}, {`'\n\t\0\\\'\"'`, text.Of("\n\t\x00\\'\"")},
		{`"\u0041\uD83d\uDe00\uffff"`, "\x00A\xd8\x3d\xde\x00\xff\xff"}, {`"\u00e9x"`, text.Of("éx")},
		{"\"é\U0001F600\"", text.Of("é\U0001F600")}, {"'\xff\xc3'", text.Of("\uFFFD\uFFFD")},
		{"'\xc3\\n'", text.Of("\uFFFD\n")}, {"'a\r\t\x00b'", text.Of("a\r\t\x00b")}, {`'//'`, text.Of("//")}, {`'/*'`, text.Of("/*")},
		{`"\0001"`, text.Of("\x00001")},
	} {
		if got := scan(t, c.in); !slices.Equal(got, []Token{{Kind: String, Text: c.units}}) {
			t.Errorf("Scan(%q) = %v", c.in, got)
		}
	}
	for _, s := range []string{
		`"`, `'`, `"a`, `"a'`, "\"a\nb\"", "'\\\n'", `"\`, `"\"`, `"\a"`, `"\x41"`, `"\r"`, `"\1"`, `"\u"`, `"\u123"`, `"\u123g"`, `"\u123G"`,
		`"\u{41}"`, `"\u12`, `"\u 123"`, `"\U0041"`, `"\é"`,
	} {
		checkFault(t, s, api.ErrLex, 0)
		checkFault(t, "''"+s, api.ErrLex, 2)
	}
}

func TestSigns(t *testing.T) {
	for _, s := range strings.Fields(signs) {
		if got := scan(t, s); !slices.Equal(got, []Token{{Kind: Sign, Text: s}}) {
			t.Errorf("Scan(%q) = %v", s, got)
		}
	}
	for in, want := range map[string]string{
		"a?.5": "a ? . 5", "==": "= =", "====": "=== =", "!=": "! =", "!===": "!== =", "..": ". .", ".....": "... . .", "+++": "++ +",
		"---": "-- -", "+==": "+= =", "<==": "<= =", "=>=": "=> =", "???": "?? ?", "??=": "?? =", "&&&&": "&& &&", "**=": "* *=", "<<": "< <",
		">>>=": "> > >=", "1.5": "1 . 5", "1..a": "1 . . a", "a=>b": "a => b", "-1": "- 1", "/=": "/=", "a/b": "a / b",
	} {
		var l []string
		for _, tok := range scan(t, in) {
			l = append(l, tok.Text)
		}
		if got := strings.Join(l, " "); got != want {
			t.Errorf("Scan(%q) = %s", in, got)
		}
	}
	checkFault(t, "a|b", api.ErrLex, 1)
	checkFault(t, "|||", api.ErrLex, 2)
}

func TestBlanks(t *testing.T) {
	for _, s := range []string{"", " \t\n\r", "//", "// a\n", "/**/", "/* \n\"'` */", "/*/ */", "//*\n", "/***/", "/*//*/", "//\r\n//\xff"} {
		if got := scan(t, s); len(got) != 0 {
			t.Errorf("Scan(%q) = %v", s, got)
		}
	}
	want := []Token{{Kind: Name, Text: "a", At: 1}, {Kind: Number, Text: "2", At: 10, N: 2}, {Kind: Sign, Text: "/", At: 15}}
	if got := scan(t, " a/* b */ 2//c\n/ //"); !slices.Equal(got, want) {
		t.Errorf("%v", got)
	}
	for s, at := range map[string]int{"/*": 0, "a /*": 2, "/*/": 0, "/**": 0, "/* * /": 0, "a/**//* ": 5, "//\n/*": 3, "/*\n//": 0} {
		checkFault(t, s, api.ErrLex, at)
	}
}

func TestFirstFault(t *testing.T) {
	checkFault(t, "a @ /*", api.ErrLex, 2)
	checkFault(t, "a /* @", api.ErrLex, 2)
	checkFault(t, "'\n' 01", api.ErrLex, 0)
}

func TestSize(t *testing.T) {
	full := strings.Repeat(" ", api.MaxSource-1) + ";"
	if got := scan(t, full); !slices.Equal(got, []Token{{Kind: Sign, Text: ";", At: api.MaxSource - 1}}) {
		t.Errorf("%v", got)
	}
	checkFault(t, full+" ", api.ErrSize, api.MaxSource)
	checkFault(t, "@"+full, api.ErrSize, api.MaxSource)
	if got := scan(t, strings.Repeat("(", api.MaxSource)); len(got) != api.MaxSource {
		t.Errorf("%d tokens", len(got))
	}
}

// P0: every string of bytes is scanned or has one fault, within it.
func TestRandomBytes(t *testing.T) {
	rnd := rand.New(rand.NewSource(6))
	pieces := append(strings.Fields(words+" "+signs), "a", "12", "0", "\"", "'", "\\", "\\u00", "\n", " ", "//", "/*", "*/", "\xff", "é", "@", "x'")
	for range 20000 {
		var b strings.Builder
		for range rnd.Intn(12) {
			b.WriteString(pieces[rnd.Intn(len(pieces))])
		}
		s := b.String()
		l, f := Scan(s)
		if f.Kind == api.OK && (f.At != 0 || len(l) == 0 || l[len(l)-1].Kind != End) ||
			f.Kind != api.OK && (f.Kind != api.ErrLex || len(l) != 0 || f.At < 0 || f.At >= len(s)) {
			t.Fatalf("Scan(%q): %v, %v", s, l, f)
		}
		checkTokens(t, s, l)
	}
}

// checkTokens holds each token against what stands at its offset.
func checkTokens(t *testing.T, s string, l []Token) {
	t.Helper()
	end := 0
	for _, tok := range l {
		if tok.At < end || tok.Kind != String && !strings.HasPrefix(s[tok.At:], tok.Text) {
			t.Fatalf("Scan(%q): %v", s, tok)
		}
		end = tok.At + len(tok.Text)
		if tok.Kind == String {
			end = tok.At + 2
		}
	}
}
