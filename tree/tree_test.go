package tree

import (
	"slices"
	"strings"
	"testing"

	"ossuary/text"
)

func name(s string) *Node { return Make(Name, 0, s) }

func number(n int64) *Node { return &Node{Kind: Number, N: n} }

func object(key string) *Node {
	return Make(Object, 0, "", Make(Prop, 0, "", Make(String, 0, text.Of(key)), name("a")))
}

func TestMake(t *testing.T) {
	a, b := name("a"), name("b")
	kids := []*Node{a, b}
	n := Make(Binary, 7, "+", kids...)
	kids[0] = nil
	if n.Kind != Binary || n.At != 7 || n.S != "+" || n.N != 0 || n.Flags != 0 || !slices.Equal(n.Kids, []*Node{a, b}) {
		t.Errorf("Make = %v", n)
	}
	if n := Make(-5, -1, "\xff", nil, nil); n.Kind != -5 || n.At != -1 || n.S != "\xff" || len(n.Kids) != 2 {
		t.Errorf("Make = %v", n)
	}
	if n := Make(Skip, 0, ""); len(n.Kids) != 0 {
		t.Errorf("Make = %v", n)
	}
}

func TestSame(t *testing.T) {
	sample := func() *Node {
		return &Node{Kind: Call, At: 3, S: "s", N: 4, Flags: 5, Kids: []*Node{name("f"), nil, number(1)}}
	}
	changes := map[string]func(n *Node){
		"kind":  func(n *Node) { n.Kind = New },
		"text":  func(n *Node) { n.S = "t" },
		"N":     func(n *Node) { n.N++ },
		"flags": func(n *Node) { n.Flags = 4 },
		"fewer": func(n *Node) { n.Kids = n.Kids[:2] },
		"more":  func(n *Node) { n.Kids = append(n.Kids, nil) },
		"nil":   func(n *Node) { n.Kids[0] = nil },
		"kid":   func(n *Node) { n.Kids[1] = name("x") },
		"below": func(n *Node) { n.Kids[2].N = 2 },
		"order": func(n *Node) { slices.Reverse(n.Kids) },
	}
	for what, change := range changes {
		n := sample()
		change(n)
		if Same(n, sample()) || Same(sample(), n) {
			t.Errorf("Same in spite of another %s", what)
		}
	}
	moved := sample()
	moved.At, moved.Kids[0].At = 99, 98
	if !Same(moved, sample()) || !Same(nil, nil) || Same(nil, sample()) || Same(sample(), nil) {
		t.Error("Same of equal trees, or of nil")
	}
}

func TestWalk(t *testing.T) {
	n := Make(1, 0, "a", Make(2, 0, "b", Make(99, 0, "c"), nil), nil, Make(3, 0, "d"))
	for stop, want := range map[string]string{"": "abcd", "a": "a", "b": "ab", "c": "abc", "d": "abcd"} {
		got := ""
		n.Walk(func(n *Node) bool { got += n.S; return n.S != stop })
		if got != want {
			t.Errorf("stopped at %q: visits %s", stop, got)
		}
	}
	got := ""
	for n := range n.Walk {
		got += n.S
	}
	if got != "abcd" {
		t.Errorf("a range visits %s", got)
	}
	var none *Node
	none.Walk(func(*Node) bool { t.Error("nil has a node"); return true })
}

func TestQuote(t *testing.T) {
	for in, want := range map[string]string{
		"":                               `""`,
		text.Of(`a"b`):                   `"a\u0022b"`,
		text.Of(`\'`):                    `"\u005c'"`,
		text.Of(" ~\x1f\x7f\n\x00"):      `" ~\u001f\u007f\u000a\u0000"`,
		text.Of("é\U0001F600"):           `"\u00e9\ud83d\ude00"`,
		"\xd8\x00\x00a\xff\xff\x01\x41A": `"\ud800a\uffff\u0141"`,
	} {
		if got := Quote(in); got != want {
			t.Errorf("Quote(%x) = %s", in, got)
		}
	}
}

func TestPrint(t *testing.T) {
	sum := Make(Binary, 0, "+", name("a"), name("b"))
	for _, c := range []struct {
		n    *Node
		want string
	}{
		{nil, ""}, {name("a"), "a"}, {name("\xff{ "), "\xff{ "}, {name(""), ""},
		{sum, "(a + b)"}, {Make(Binary, 0, "in", sum, sum), "((a + b) in (a + b))"},
		{Make(Binary, 0, "-", name("x"), Make(Binary, 0, "*", sum, name("y"))), "(x - ((a + b) * y))"},
		{Make(Return, 0, ""), "return;"}, {Make(Return, 0, "", name("a")), "return a;"}, {Make(Return, 0, "", sum), "return (a + b);"},
		{Make(Break, 0, ""), "break;"}, {Make(Break, 0, "label"), "break label;"},
		{Make(Again, 0, ""), "continue;"}, {Make(Again, 0, "label"), "continue label;"},
		{number(12), "12"}, {object("az_$AZ09"), "{az_$AZ09: a}"}, {object("0a"), `{"0a": a}`}, {object(""), `{"": a}`}, {object("if"), "{if: a}"},
		{object(strings.Repeat("n", 61)), `{"` + strings.Repeat("n", 61) + `": a}`}, {object(strings.Repeat("n", 60)), "{" + strings.Repeat("n", 60) + ": a}"}, {Make(String, 0, text.Of("a\n")), `"a\u000a"`},
	} {
		if got := Print(c.n); got != c.want {
			t.Errorf("Print = %q, not %q", got, c.want)
		}
	}
}

func TestPrintIsFlatOnTheLeft(t *testing.T) {
	n := name("x")
	for range 50000 {
		n = Make(Binary, 0, "+", n, name("y"))
	}
	if got := Print(n); got != strings.Repeat("(", 50000)+"x"+strings.Repeat(" + y)", 50000) {
		t.Errorf("%d bytes", len(got))
	}
}

func TestNumbersOfKinds(t *testing.T) {
	kinds := []int{Program, Let, Declare, Func, Class, Member, Block, If, While, Do, For, ForOf, Return, Break, Again, Throw, Try, Expr, Label, Skip, None, Params}
	for i, k := range kinds {
		if k != i+1 {
			t.Errorf("the number %d is %d", i+1, k)
		}
	}
	kinds = []int{Number, String, Name, This, Null, True, False, Array, Object, Prop, Hole, Spread, Unary, Update, Binary, And, Or, Else, Cond, Assign, Call, New, Dot, Index, Yield, YieldAll, Super, SuperDot, 0, 0, ArrayPat, ObjectPat, PropPat, Default, Rest}
	for i, k := range kinds {
		if k != i+30 && k != 0 {
			t.Errorf("the number %d is %d", i+30, k)
		}
	}
	for i, f := range []int{Generator, Arrow, Method, Brief, Computed, Short, Static, Ahead, Maker, Heir} {
		if f != 1<<i {
			t.Errorf("the flag %d is %d", 1<<i, f)
		}
	}
}

// P0: nothing panics for any nodes, not even for kinds without what they should have below them.
func TestAnyNodes(t *testing.T) {
	l := []*Node{nil, {}, name("a"), {Kind: None}}
	for kind := -1; kind <= 70; kind++ {
		for _, flags := range []int{0, -1, Arrow, Arrow | Brief, Method, Short, Computed, Generator} {
			l = append(l, &Node{Kind: kind, Flags: flags}, &Node{Kind: kind, Flags: flags, Kids: []*Node{nil, nil, nil, nil}})
		}
	}
	for _, n := range l {
		Print(n)
		for _, kid := range l {
			if kid == nil {
				continue
			}
			outer := *kid
			outer.Kids = []*Node{n}
			Print(&outer)
			outer.Kids = []*Node{n, n, n, n}
			Print(&outer)
			Same(n, kid)
			n.Walk(func(*Node) bool { return true })
		}
	}
}
