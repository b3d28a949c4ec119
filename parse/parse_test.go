package parse

import (
	"math/rand"
	"strconv"
	"strings"
	"testing"

	"ossuary/api"
	"ossuary/lex"
	"ossuary/text"
	"ossuary/tree"
)

func kindName(kind int) string {
	switch kind {
	case tree.Program, tree.Block, tree.Params:
		return map[int]string{tree.Program: "Program", tree.Block: "Block", tree.Params: "Params"}[kind]
	}
	names := "Program Let Declare Func Class Member Block If While Do For ForOf Return Break Again Throw Try Expr Label Skip None Params"
	if kind < 30 {
		return strings.Fields(names)[kind-1]
	}
	names = "Number String Name This Null True False Array Object Prop Hole Spread Unary Update Binary And Or Else Cond Assign Call New Dot Index Yield YieldAll Super SuperDot - - ArrayPat ObjectPat PropPat Default Rest"
	return strings.Fields(names)[kind-30]
}

func flagNames(flags int) string {
	s := ""
	for i, f := range []string{"Generator", "Arrow", "Method", "Brief", "Computed", "Short", "Static", "Ahead", "Maker", "Heir"} {
		if flags&(1<<i) != 0 {
			s += "!" + f
		}
	}
	return s
}

// dump writes a tree as kind@offset'text'!flags(kids).
func dump(n *tree.Node) string {
	s := kindName(n.Kind) + "@" + strconv.Itoa(n.At)
	switch {
	case n.Kind == tree.String:
		s += "'" + text.Go(n.S) + "'"
	case n.Kind == tree.Number:
		s += "'" + strconv.FormatInt(n.N, 10) + "'"
	case n.S != "":
		s += "'" + n.S + "'"
	}
	s += flagNames(n.Flags)
	if len(n.Kids) == 0 {
		return s
	}
	var l []string
	for _, kid := range n.Kids {
		l = append(l, dump(kid))
	}
	return s + "(" + strings.Join(l, " ") + ")"
}

// checkTree holds the statements of a program against their dump.
func checkTree(t *testing.T, source, want string) {
	t.Helper()
	n, f := Parse(source)
	if f.Kind != api.OK {
		t.Errorf("Parse(%q): fault %v", source, f)
		return
	}
	var l []string
	for _, kid := range n.Kids {
		l = append(l, dump(kid))
	}
	if got := strings.Join(l, " "); n.Kind != tree.Program || got != want {
		t.Errorf("Parse(%q):\n got %s\nwant %s", source, got, want)
	}
	again, f := Parse(tree.Print(n))
	if f.Kind != api.OK || !tree.Same(n, again) {
		t.Errorf("%q is printed as %q: fault %v", source, tree.Print(n), f)
	}
}

// checkExpr holds the expression of a single statement against its dump.
func checkExpr(t *testing.T, source, want string) {
	t.Helper()
	checkTree(t, source+";", "Expr@0("+want+")")
}

func checkFault(t *testing.T, source string, kind api.Errno, at int) {
	t.Helper()
	n, f := Parse(source)
	if n != nil || f != (api.Fault{Kind: kind, At: at}) {
		t.Errorf("Parse(%.80q): fault %v, not %d at %d", source, f, kind, at)
	}
}

func TestStatements(t *testing.T) {
	checkTree(t, "", "")
	checkTree(t, " ; ; ", "Skip@1 Skip@3")
	checkTree(t, "let a, b = 1;", "Let@0'let'(Declare@4(Name@4'a') Declare@7(Name@7'b' Number@11'1'))")
	checkTree(t, "const c = d = 2;", "Let@0'const'(Declare@6(Name@6'c' Assign@12(Name@10'd' Number@14'2')))")
	checkTree(t, "const c;", "Let@0'const'(Declare@6(Name@6'c'))")
	checkTree(t, "{ let a; b; }", "Block@0(Let@2'let'(Declare@6(Name@6'a')) Expr@9(Name@9'b'))")
	checkTree(t, "if (a) b; else c;", "If@0(Name@4'a' Expr@7(Name@7'b') Expr@15(Name@15'c'))")
	checkTree(t, "if (a) if (b) ; else {}", "If@0(Name@4'a' If@7(Name@11'b' Skip@14 Block@21))")
	checkTree(t, "while (a) ;", "While@0(Name@7'a' Skip@10)")
	checkTree(t, "do a; while (b);", "Do@0(Expr@3(Name@3'a') Name@13'b')")
	checkTree(t, "throw a;", "Throw@0(Name@6'a')")
	checkTree(t, "return; return a;", "Return@0 Return@8(Name@15'a')")
	checkTree(t, "break; break a; continue; continue a;", "Break@0 Break@7'a' Again@16 Again@26'a'")
	checkTree(t, "a: b: ;", "Label@0'a'(Label@3'b'(Skip@6))")
	checkTree(t, "try {} catch {}", "Try@0(Block@4 None@13 Block@13 None@15)")
	checkTree(t, "try {} finally {}", "Try@0(Block@4 None@7 None@7 Block@15)")
	checkTree(t, "try {} catch (a) {} finally {}", "Try@0(Block@4 Name@14'a' Block@17 Block@28)")
	checkTree(t, "try {} catch ([a, {b}]) {}", "Try@0(Block@4 ArrayPat@14(Name@15'a' ObjectPat@18(PropPat@19!Short(String@19'b' Name@19'b'))) Block@24 None@26)")
}

func TestLoops(t *testing.T) {
	checkTree(t, "for (;;) ;", "For@0(None@5 None@6 None@7 Skip@9)")
	checkTree(t, "for (let a = 1, b; a; b) {}", "For@0(Let@5'let'(Declare@9(Name@9'a' Number@13'1') Declare@16(Name@16'b')) Name@19'a' Name@22'b' Block@25)")
	checkTree(t, "for (a = 1;;) ;", "For@0(Expr@5(Assign@7(Name@5'a' Number@9'1')) None@11 None@12 Skip@14)")
	checkTree(t, "for (const a of b) c;", "ForOf@0'const'(Name@11'a' Name@16'b' Expr@19(Name@19'c'))")
	checkTree(t, "for (let [a] of b = c) ;", "ForOf@0'let'(ArrayPat@9(Name@10'a') Assign@18(Name@16'b' Name@20'c') Skip@23)")
	checkTree(t, "for (a.b of c) ;", "ForOf@0(Dot@6'b'(Name@5'a') Name@12'c' Skip@15)")
	checkTree(t, "for ([a] of b) ;", "ForOf@0(ArrayPat@5(Name@6'a') Name@12'b' Skip@15)")
	checkTree(t, "for (of of of) ;", "ForOf@0(Name@5'of' Name@11'of' Skip@15)")
	checkTree(t, "for (let of of of) ;", "ForOf@0'let'(Name@9'of' Name@15'of' Skip@19)")
	checkTree(t, "for (of; of;) ;", "For@0(Expr@5(Name@5'of') Name@9'of' None@12 Skip@14)")
	checkTree(t, "for (let of = 1;;) ;", "For@0(Let@5'let'(Declare@9(Name@9'of' Number@14'1')) None@16 None@17 Skip@19)")
	checkTree(t, "for (yield; ;) ;", "For@0(Expr@5(Yield@5) None@12 None@13 Skip@15)")
}

func TestFunctions(t *testing.T) {
	checkTree(t, "function f() {}", "Func@0'f'(Params@10 Block@13)")
	checkTree(t, "function* f(a, b = 1,) { c; }", "Func@0'f'!Generator(Params@11(Name@12'a' Default@17(Name@15'b' Number@19'1')) Block@23(Expr@25(Name@25'c')))")
	checkTree(t, "function f(...[a]) {}", "Func@0'f'(Params@10(Rest@11(ArrayPat@14(Name@15'a'))) Block@19)")
	checkExpr(t, "a = function () {}", "Assign@2(Name@0'a' Func@4(Params@13 Block@16))")
	checkExpr(t, "(function* g(a) {})", "Func@1'g'!Generator(Params@12(Name@13'a') Block@16)")
	checkExpr(t, "a => b", "Func@0!Arrow!Brief(Params@0(Name@0'a') Name@5'b')")
	checkExpr(t, "() => {}", "Func@0!Arrow(Params@0 Block@6)")
	checkExpr(t, "({a}, [b] = 1, ...c) => ({})", "Func@0!Arrow!Brief(Params@0(ObjectPat@1(PropPat@2!Short(String@2'a' Name@2'a')) Default@10(ArrayPat@6(Name@7'b') Number@12'1') Rest@15(Name@18'c')) Object@25)")
	checkExpr(t, "a => b => c = d", "Func@0!Arrow!Brief(Params@0(Name@0'a') Func@5!Arrow!Brief(Params@5(Name@5'b') Assign@12(Name@10'c' Name@14'd')))")
	checkExpr(t, "(a) => {}", "Func@0!Arrow(Params@0(Name@1'a') Block@7)")
	checkExpr(t, "((a) => b)(c)", "Call@10(Func@1!Arrow!Brief(Params@1(Name@2'a') Name@8'b') Name@11'c')")
	checkExpr(t, "a ? (b) : (c) => d", "Cond@2(Name@0'a' Name@5'b' Func@10!Arrow!Brief(Params@10(Name@11'c') Name@17'd'))")
}

func TestYield(t *testing.T) {
	checkExpr(t, "yield", "Yield@0")
	checkExpr(t, "yield a = b", "Yield@0(Assign@8(Name@6'a' Name@10'b'))")
	checkExpr(t, "yield* a", "YieldAll@0(Name@7'a')")
	checkExpr(t, "yield yield - a", "Yield@0(Yield@6(Unary@12'-'(Name@14'a')))")
	checkExpr(t, "[yield, yield]", "Array@0(Yield@1 Yield@8)")
	checkExpr(t, "a[yield] = (yield)", "Assign@9(Index@1(Name@0'a' Yield@2) Yield@12)")
	checkExpr(t, "({a: yield})", "Object@1(Prop@2(String@2'a' Yield@5))")
	checkExpr(t, "a ? yield : yield", "Cond@2(Name@0'a' Yield@4 Yield@12)")
	checkExpr(t, "yield (of)", "Yield@0(Name@7'of')")
	checkExpr(t, "yield (of.a)", "Yield@0(Dot@9'a'(Name@7'of'))")
	checkFault(t, "yield of;", api.ErrParse, 6)
	checkFault(t, "yield * ;", api.ErrParse, 8)
	checkFault(t, "1 + yield;", api.ErrParse, 4)
	checkFault(t, "yield", api.ErrParse, 5)
}

func TestClasses(t *testing.T) {
	checkTree(t, "class A {}", "Class@0'A'(None@8)")
	checkTree(t, "class A extends B.c(d) { ; }", "Class@0'A'(Call@19(Dot@17'c'(Name@16'B') Name@20'd'))")
	checkTree(t, "class A { constructor() {} }", "Class@0'A'(None@8 Member@10(String@10'constructor' Func@21!Method!Maker(Params@21 Block@24)))")
	checkTree(t, "class A extends {} { 'constructor'() {} }", "Class@0'A'(Object@16 Member@21(String@21'constructor' Func@34!Method!Maker!Heir(Params@34 Block@37)))")
	checkTree(t, "class A extends B { static constructor() {} *constructor() {} ['constructor']() {} }",
		"Class@0'A'(Name@16'B' Member@20!Static(String@27'constructor' Func@38!Method(Params@38 Block@41)) Member@44(String@45'constructor' Func@56!Generator!Method(Params@56 Block@59)) Member@62!Computed(String@63'constructor' Func@77!Method(Params@77 Block@80)))")
	checkTree(t, "class A { static() {} static static() {} static *[a]() {} *static() {} 1() {} if() {} }",
		"Class@0'A'(None@8 Member@10(String@10'static' Func@16!Method(Params@16 Block@19)) Member@22!Static(String@29'static' Func@35!Method(Params@35 Block@38)) "+
			"Member@41!Computed!Static(Name@50'a' Func@52!Generator!Method(Params@52 Block@55)) Member@58(String@59'static' Func@65!Generator!Method(Params@65 Block@68)) "+
			"Member@71(Number@71'1' Func@72!Method(Params@72 Block@75)) Member@78(String@78'if' Func@80!Method(Params@80 Block@83)))")
	checkExpr(t, "(class extends -a {})", "Class@1(Unary@15'-'(Name@16'a'))")
	checkExpr(t, "a = class B {}", "Assign@2(Name@0'a' Class@4'B'(None@12))")
}

func TestOperators(t *testing.T) {
	checkExpr(t, "a ?? b || c && d", "Else@2(Name@0'a' Or@7(Name@5'b' And@12(Name@10'c' Name@15'd')))")
	checkExpr(t, "a && b || c ?? d", "Else@12(Or@7(And@2(Name@0'a' Name@5'b') Name@10'c') Name@15'd')")
	checkExpr(t, "a && b && c", "And@7(And@2(Name@0'a' Name@5'b') Name@10'c')")
	checkExpr(t, "a && (b && c)", "And@2(Name@0'a' And@8(Name@6'b' Name@11'c'))")
	checkExpr(t, "(a ?? b) && c", "And@9(Else@3(Name@1'a' Name@6'b') Name@12'c')")
	checkExpr(t, "a === b < c + d * e", "Binary@2'==='(Name@0'a' Binary@8'<'(Name@6'b' Binary@12'+'(Name@10'c' Binary@16'*'(Name@14'd' Name@18'e'))))")
	checkExpr(t, "a * b + c < d === e", "Binary@14'==='(Binary@10'<'(Binary@6'+'(Binary@2'*'(Name@0'a' Name@4'b') Name@8'c') Name@12'd') Name@18'e')")
	checkExpr(t, "a - b - c", "Binary@6'-'(Binary@2'-'(Name@0'a' Name@4'b') Name@8'c')")
	checkExpr(t, "a - (b - c)", "Binary@2'-'(Name@0'a' Binary@7'-'(Name@5'b' Name@9'c'))")
	checkExpr(t, "a % b / c", "Binary@6'/'(Binary@2'%'(Name@0'a' Name@4'b') Name@8'c')")
	checkExpr(t, "a in b instanceof c >= d", "Binary@20'>='(Binary@7'instanceof'(Binary@2'in'(Name@0'a' Name@5'b') Name@18'c') Name@23'd')")
	checkExpr(t, "a !== b <= c > d", "Binary@2'!=='(Name@0'a' Binary@13'>'(Binary@8'<='(Name@6'b' Name@11'c') Name@15'd'))")
	checkExpr(t, "a ? b = c : d ? e : f", "Cond@2(Name@0'a' Assign@6(Name@4'b' Name@8'c') Cond@14(Name@12'd' Name@16'e' Name@20'f'))")
	checkExpr(t, "- + ! typeof delete a", "Unary@0'-'(Unary@2'+'(Unary@4'!'(Unary@6'typeof'(Unary@13'delete'(Name@20'a')))))")
	checkExpr(t, "- -a", "Unary@0'-'(Unary@2'-'(Name@3'a'))")
	checkExpr(t, "-a * b", "Binary@3'*'(Unary@0'-'(Name@1'a') Name@5'b')")
	checkExpr(t, "++a + b--", "Binary@4'+'(Update@0'++'!Ahead(Name@2'a') Update@7'--'(Name@6'b'))")
	checkExpr(t, "- --a.b", "Unary@0'-'(Update@2'--'!Ahead(Dot@5'b'(Name@4'a')))")
	checkExpr(t, "(a++).b[c--]", "Index@7(Dot@5'b'(Update@2'++'(Name@1'a')) Update@9'--'(Name@8'c'))")
	for _, op := range []string{"", "+", "-", "*", "/", "%"} {
		sign := ""
		if op != "" {
			sign = "'" + op + "'"
		}
		checkExpr(t, "a "+op+"= b", "Assign@2"+sign+"(Name@0'a' Name@"+strconv.Itoa(4+len(op))+"'b')")
	}
	checkExpr(t, "a = b += c", "Assign@2(Name@0'a' Assign@6'+'(Name@4'b' Name@9'c'))")
}

func TestPrimaries(t *testing.T) {
	checkExpr(t, "this", "This@0")
	checkExpr(t, "[null, true, false, 12, 'x']", "Array@0(Null@1 True@7 False@13 Number@20'12' String@24'x')")
	checkExpr(t, "[]", "Array@0")
	checkExpr(t, "[,]", "Array@0(Hole@1)")
	checkExpr(t, "[a, , b,, ...c,]", "Array@0(Name@1'a' Hole@4 Name@6'b' Hole@8 Spread@10(Name@13'c'))")
	checkExpr(t, "[, a]", "Array@0(Hole@1 Name@3'a')")
	checkExpr(t, "a.if.b", "Dot@4'b'(Dot@1'if'(Name@0'a'))")
	checkExpr(t, "1.a", "Dot@1'a'(Number@0'1')")
	checkExpr(t, "a[b](c, ...d,)()", "Call@14(Call@4(Index@1(Name@0'a' Name@2'b') Name@5'c' Spread@8(Name@11'd')))")
	checkExpr(t, "new A(b).c(d)", "Call@10(Dot@8'c'(New@0(Name@4'A' Name@6'b')) Name@11'd')")
	checkExpr(t, "new a.b[c](d)", "New@0(Index@7(Dot@5'b'(Name@4'a') Name@8'c') Name@11'd')")
	checkExpr(t, "new new A(a)(b)", "New@0(New@4(Name@8'A' Name@10'a') Name@13'b')")
	checkExpr(t, "new (a())(...b)", "New@0(Call@6(Name@5'a') Spread@10(Name@13'b'))")
	checkExpr(t, "new (a().b)()", "New@0(Dot@8'b'(Call@6(Name@5'a')))")
	checkExpr(t, "super(a, ...b)", "Super@0(Name@6'a' Spread@9(Name@12'b'))")
	checkExpr(t, "super.a.b", "Dot@7'b'(SuperDot@0'a')")
	checkExpr(t, "super.in(a)", "Call@8(SuperDot@0'in' Name@9'a')")
	checkExpr(t, "((a))", "Name@2'a'")
	checkExpr(t, "(a = b).c", "Dot@7'c'(Assign@3(Name@1'a' Name@5'b'))")
}

func TestObjects(t *testing.T) {
	checkExpr(t, "({})", "Object@1")
	checkExpr(t, "({a, b: c, 'd': e, 1: f, if: g, [h]: i,})",
		"Object@1(Prop@2!Short(String@2'a' Name@2'a') Prop@5(String@5'b' Name@8'c') Prop@11(String@11'd' Name@16'e') Prop@19(Number@19'1' Name@22'f') Prop@25(String@25'if' Name@29'g') Prop@32!Computed(Name@33'h' Name@37'i'))")
	checkExpr(t, "({a() {}, *b() {}, [c]() {}, *[d]() {}, 1() {}, ...e})",
		"Object@1(Prop@2!Method(String@2'a' Func@3!Method(Params@3 Block@6)) Prop@10!Method(String@11'b' Func@12!Generator!Method(Params@12 Block@15)) "+
			"Prop@19!Method!Computed(Name@20'c' Func@22!Method(Params@22 Block@25)) Prop@29!Method!Computed(Name@31'd' Func@33!Generator!Method(Params@33 Block@36)) "+
			"Prop@40!Method(Number@40'1' Func@41!Method(Params@41 Block@44)) Spread@48(Name@51'e'))")
	checkExpr(t, "({a = 1})", "Object@1(Prop@2!Short(String@2'a' Default@4(Name@2'a' Number@6'1')))")
	checkExpr(t, "({\"\\u00e9 \": a})", "Object@1(Prop@2(String@2'é ' Name@13'a'))")
}

func TestPatterns(t *testing.T) {
	checkTree(t, "let [a, , b = 1, ...c] = d;", "Let@0'let'(Declare@4(ArrayPat@4(Name@5'a' Hole@8 Default@12(Name@10'b' Number@14'1') Rest@17(Name@20'c')) Name@25'd'))")
	checkTree(t, "let [a,] = b;", "Let@0'let'(Declare@4(ArrayPat@4(Name@5'a') Name@11'b'))")
	checkTree(t, "let [,] = a;", "Let@0'let'(Declare@4(ArrayPat@4(Hole@5) Name@10'a'))")
	checkTree(t, "let {a, b = 1, c: d, 'e': [f] = 2, [g]: h, 1: i, if: j, ...k} = l;",
		"Let@0'let'(Declare@4(ObjectPat@4(PropPat@5!Short(String@5'a' Name@5'a') PropPat@8!Short(String@8'b' Default@10(Name@8'b' Number@12'1')) PropPat@15(String@15'c' Name@18'd') "+
			"PropPat@21(String@21'e' Default@30(ArrayPat@26(Name@27'f') Number@32'2')) PropPat@35!Computed(Name@36'g' Name@40'h') PropPat@43(Number@43'1' Name@46'i') PropPat@49(String@49'if' Name@53'j') Rest@56(Name@59'k')) Name@64'l'))")
	checkTree(t, "let {a,} = b;", "Let@0'let'(Declare@4(ObjectPat@4(PropPat@5!Short(String@5'a' Name@5'a')) Name@11'b'))")
	checkExpr(t, "[a, b] = c", "Assign@7(ArrayPat@0(Name@1'a' Name@4'b') Name@9'c')")
	checkExpr(t, "[a.b, c[d] = 1, , [e], {f}, ...[g]] = h",
		"Assign@36(ArrayPat@0(Dot@2'b'(Name@1'a') Default@11(Index@7(Name@6'c' Name@8'd') Number@13'1') Hole@16 ArrayPat@18(Name@19'e') ObjectPat@23(PropPat@24!Short(String@24'f' Name@24'f')) Rest@28(ArrayPat@31(Name@32'g'))) Name@38'h')")
	checkExpr(t, "({a, b = 1, c: d.e, [f]: g = 2, 3: [h], ...i.j} = k)",
		"Assign@48(ObjectPat@1(PropPat@2!Short(String@2'a' Name@2'a') PropPat@5!Short(String@5'b' Default@7(Name@5'b' Number@9'1')) PropPat@12(String@12'c' Dot@16'e'(Name@15'd')) "+
			"PropPat@20!Computed(Name@21'f' Default@27(Name@25'g' Number@29'2')) PropPat@32(Number@32'3' ArrayPat@35(Name@36'h')) Rest@40(Dot@44'j'(Name@43'i'))) Name@50'k')")
	checkExpr(t, "[[a] = b] = c", "Assign@10(ArrayPat@0(Default@5(ArrayPat@1(Name@2'a') Name@7'b')) Name@12'c')")
	checkExpr(t, "[...a,] = b", "Assign@8(ArrayPat@0(Rest@1(Name@4'a')) Name@10'b')")
	checkExpr(t, "[] = {} = a", "Assign@3(ArrayPat@0 Assign@8(ObjectPat@5 Name@10'a'))")
	checkExpr(t, "(a) = (b)", "Assign@4(Name@1'a' Name@7'b')")
	checkExpr(t, "[(a = 1)] = b", "Assign@10(ArrayPat@0(Default@4(Name@2'a' Number@6'1')) Name@12'b')")
}

func TestWhatIsNoTarget(t *testing.T) {
	for s, at := range map[string]int{
		"1 = a": 0, "f() = a": 1, "a + b = c": 2, "a && b = c": 2, "-a = b": 0, "a++ = b": 1, "this = a": 0, "super.a = b": 0,
		"(a = b) = c": 3, "(() => a) = b": 1, "'a' = b": 0, "new A() = b": 0, "(yield) = b": 1, "(a ? b : c) = d": 3,
		"[1] = a": 1, "[a, f()] = b": 5, "[...a, b] = c": 1, "[...a, ,] = b": 1, "[[1]] = a": 2, "[a += 1] = b": 3, "[...a = 1] = b": 6, "[...1] = a": 4,
		"({a: 1} = b)": 5, "({a() {}} = b)": 2, "({...a, b} = c)": 2, "({...[a]} = b)": 5, "({...a = 1} = b)": 7, "({a: b + c} = d)": 7, "({*a() {}} = b)": 2,
		"[a] += b": 0, "({a}) -= b": 1, "1 *= a": 0, "f() /= a": 1, "super.a %= b": 0,
		"1++": 0, "f()--": 1, "[a]++": 0, "super.a++": 0, "++1": 2, "--f()": 3, "++[a]": 2, "++super.a": 2, "-- -a": 3, "++a++": 3, "++ ++a": 3,
	} {
		checkFault(t, s+";", api.ErrEarly, at)
	}
	checkFault(t, "for (1 of a) ;", api.ErrEarly, 5)
	checkFault(t, "for (f() of a) ;", api.ErrEarly, 6)
	checkFault(t, "for (a = b of c) ;", api.ErrEarly, 7)
	checkFault(t, "for ({a: 1} of c) ;", api.ErrEarly, 9)
	checkFault(t, "for (yield of c) ;", api.ErrEarly, 5)
	// A fault is met when its sign is reached, ahead of later ones.
	checkFault(t, "1 = ;", api.ErrEarly, 0)
	checkFault(t, "1++ ++;", api.ErrEarly, 0)
	checkFault(t, "++1 @;", api.ErrLex, 4)
	checkFault(t, "++1 );", api.ErrEarly, 2)
	checkFault(t, "++(1;", api.ErrParse, 4)
	checkFault(t, "[1] of", api.ErrParse, 4)
}

func TestUnexpectedTokens(t *testing.T) {
	for s, at := range map[string]int{
		"a": 1, "a b;": 2, "let;": 3, "let a": 5, "let 1;": 4, "let if;": 4, "let a = ;": 8, "let a,;": 6, "const [a;": 8, "{": 1, "}": 0, "{ ; ": 4, ")": 0,
		"if a": 3, "if () ;": 4, "if (a ;": 6, "if (a) else": 7, "else ;": 0, "if (a) let b;": 7, "if (a) const b = 1;": 7, "if (a) function f() {}": 7, "if (a) class A {}": 7,
		"while (a) }": 10, "do a while (b);": 5, "do ; while (a)": 14, "do ; (a);": 5, "a: let b;": 3, "a: function f() {}": 3, "a: class A {}": 3,
		"for a": 4, "for () ;": 5, "for (a) ;": 6, "for (;) ;": 6, "for (;;": 7, "for (let a, b of c) ;": 14, "for (let a = 1 of c) ;": 15, "for (let a) ;": 10, "for (of) ;": 7,
		"for (a of) ;": 9, "for (let of) ;": 11, "for (;;) let a;": 9, "for (a of b; c) ;": 11, "for (; of b;) ;": 10,
		"try {}": 6, "try ;": 4, "try {} catch a {}": 13, "try {} catch () {}": 14, "try {} catch (a.b) {}": 15, "try {} finally ;": 15, "try {} catch (a = 1) {}": 16, "catch {}": 0, "finally {}": 0,
		"return": 6, "return a": 8, "throw;": 5, "break 1;": 6, "break a b;": 8, "continue if;": 9, "break": 5,
		"function () {}": 9, "function f {}": 11, "function f() ;": 13, "function f(a b) {}": 13, "function f(,) {}": 11, "function f(...a,) {}": 15, "function f(...a = 1) {}": 16, "function f(a.b) {}": 12, "function f(1) {}": 11, "function if() {}": 9,
		"class {}": 6, "class A": 7, "class A extends {}": 18, "class A extends a = b {}": 18, "class A { a }": 12, "class A { a: 1 }": 11, "class A { a() }": 14, "class A { , }": 10, "class A { static }": 17, "class A { * }": 12, "class A { [a }": 13, "class A { get a() {} }": 14, "class A { a = 1; }": 12,
		"[a b];": 3, "[...];": 4, "[a": 2, "[...a b];": 6, "({,});": 2, "({a b});": 4, "({a: });": 5, "({if});": 4, "({if = 1});": 5, "({1});": 3, "({'a'});": 5, "({[a]});": 5, "({*a});": 4, "({*a: 1});": 4, "({a: 1,,});": 7, "({...});": 5, "({a() });": 6, "({a.b});": 3, "({get a() {}});": 6,
		"let {a b} = c;": 7, "let {a.b} = c;": 6, "let {if} = c;": 7, "let {1} = c;": 6, "let {...[a]} = c;": 8, "let {...{a}} = c;": 8, "let {...a,} = c;": 9, "let {...a = 1} = c;": 10, "let {,} = c;": 5, "let {a: b.c} = d;": 9, "let {a() {}} = b;": 6, "let [...a,] = b;": 9, "let [...a = 1] = b;": 10, "let [a.b] = c;": 6, "let {...[a.b]} = c;": 10,
		"a.1;": 2, "a.;": 2, "a.'b';": 2, "a[];": 2, "a[b;": 3, "f(,);": 2, "f(a,,b);": 4, "f(a b);": 4, "f(...);": 5, "f(": 2, "();": 1, "(a;": 2, "(a, b);": 2, "(...a);": 1, "new A;": 5, "new A.b;": 7, "new;": 3, "new.target;": 3, "new -a();": 4, "new f()": 7,
		"super;": 5, "super[a];": 5, "super.1;": 6, "super.;": 6, "super(;": 6,
		"a +;": 3, "a ? b;": 5, "a ? b : ;": 8, "a ** b;": 3, "a == b;": 3, "a != b;": 2, "a && ;": 5, "!;": 1, "typeof;": 6, "a++ b;": 4, "a ++ ++;": 5, "- yield;": 2, "a in;": 4, "a?.b;": 2,
		"a => ;": 5, "=> a;": 0, "(a) => ": 7, "(a.b) => c;": 2, "(1) => c;": 1, "((a)) => b;": 1, "(a, ...b,) => c;": 8, "a + (b) => c;": 8, "a => {} + b;": 8, "a => {}.b;": 7, "a => b => ;": 10, "([a) => b;": 3, "(a] => b;": 2, "(a => b": 7, "()": 1, "() + 1;": 1, "function() => a;": 8,
		"a = b c;": 6, "a, b;": 1, "a = = b;": 4, "let a = let b;": 8, "const;": 5, "this a;": 5, "1 2;": 2, "in a;": 0, "extends;": 0, "a ? b : c : d;": 10, "var a;": 4,
	} {
		checkFault(t, s, api.ErrParse, at)
	}
	checkFault(t, "a @", api.ErrLex, 2)
	checkFault(t, ") @", api.ErrLex, 2)
	checkFault(t, strings.Repeat(")", api.MaxSource+1), api.ErrSize, api.MaxSource)
}

func TestNesting(t *testing.T) {
	nest := func(open, inner, close string, n int) string {
		return strings.Repeat(open, n) + inner + strings.Repeat(close, n)
	}
	for _, c := range []struct {
		open, inner, close string
		most, late         int // how many fit, and how far from the start of inner the fault is
	}{
		{"{", "", "}", 60, -1}, {"{", ";", "}", 59, 0}, {"a: ", ";", "", 59, 0}, {"if (a) ", ";", "", 58, -3}, {"do ", ";", " while (a);", 58, 9},
		{"while (a) ", "b;", "", 57, 0}, {"for (;;) ", "", ";", 59, 0},
		{"(", "a", ")", 28, 0}, {"- ", "a;", "", 57, 0}, {"a = ", "b;", "", 57, 0}, {"[", "a", "]", 28, 0}, {"!", "a;", "", 57, 0},
		{"a ? b : ", "c;", "", 57, -4}, {"f(", "a", ")", 28, 0}, {"() => ", "a;", "", 57, 0},
	} {
		source := nest(c.open, c.inner, c.close, c.most)
		if !strings.HasSuffix(source, ";") && !strings.HasPrefix(source, "{") {
			source += ";"
		}
		if _, f := Parse(source); f.Kind != api.OK {
			t.Errorf("%d times %q: fault %v", c.most, c.open, f)
		}
		_, f := Parse(nest(c.open, c.inner, c.close, c.most+1))
		if f != (api.Fault{Kind: api.ErrDepth, At: len(c.open)*(c.most+1) + c.late}) {
			t.Errorf("%d times %q: fault %v", c.most+1, c.open, f)
		}
	}
	// Patterns, functions and classes: a rest, bindings, a statement are in progress at once.
	checkDeep(t, "let "+nest("[", "", "]", 60)+" = a;", "let "+nest("[", "", "]", 61)+" = a;", 4+60)
	checkDeep(t, "function f("+nest("[", "", "]", 59)+") {}", "function f("+nest("[", "", "]", 60)+") {}", 11+59)
	checkDeep(t, nest("function f() {", "", "}", 60), nest("function f() {", "", "}", 61), 14*60+10)
	checkDeep(t, nest("class A { a() {", "", "} }", 60), nest("class A { a() {", "", "} }", 61), 15*60+11)
	checkDeep(t, nest("(function () {", "", "});", 10), nest("(function () {", ";", "});", 10), 14*10)
	// What follows one another, or isn't counted, isn't nested.
	checkTree(t, strings.Repeat(";", 3), "Skip@0 Skip@1 Skip@2")
	for _, s := range []string{strings.Repeat("new ", 1000) + "a" + strings.Repeat("()", 1000) + ";", "a" + strings.Repeat(" + a", 2000) + ";", "a" + strings.Repeat(".b", 5000) + ";", strings.Repeat("a; ", 1000), "a" + strings.Repeat(" && a", 1000) + ";"} {
		n, f := Parse(s)
		if f.Kind != api.OK {
			t.Errorf("%.20q..: fault %v", s, f)
			continue
		}
		if again, f := Parse(tree.Print(n)); !strings.Contains(s, "+") && (f.Kind != api.OK || !tree.Same(n, again)) {
			t.Errorf("%.20q.. is printed badly: %v", s, f)
		}
	}
}

func checkDeep(t *testing.T, good, bad string, at int) {
	t.Helper()
	if _, f := Parse(good); f.Kind != api.OK {
		t.Errorf("%.60q: fault %v", good, f)
	}
	if bad != "" {
		if _, f := Parse(bad); f.Kind != api.ErrDepth || f.At != at {
			t.Errorf("%.60q: fault %v, not at %d", bad, f, at)
		}
	}
}

func TestLongFaults(t *testing.T) {
	for _, s := range []string{"(", "[", "{", "new ", "function f(", "a => ", "class A { [", "-", "a?", "a=", "let {a:", "let [", "if(", "for(", "try {", "a:", "yield ", "super(", "a ?? ", "f(a,"} {
		n, f := Parse(strings.Repeat(s, api.MaxSource/len(s)))
		if n != nil || f.Kind == api.OK {
			t.Errorf("many %q are accepted", s)
		}
	}
}

// A writer makes random sources by the grammar.
type writer struct {
	*rand.Rand
	left int // parts that may still come
}

func (w *writer) pick(l ...string) string { return l[w.Intn(len(l))] }

func (w *writer) many(most int, part func() string, between string) string {
	var l []string
	for range w.Intn(most + 1) {
		l = append(l, part())
	}
	return strings.Join(l, between)
}

func (w *writer) name() string { return w.pick("a", "b", "of", "static", "get", "$x", "_1") }

func (w *writer) key() string {
	if w.Intn(4) == 0 {
		return "[" + w.assign() + "]"
	}
	return w.pick("a", "if", "'1a'", "'7'", "'a.b'", "'@'", "'['", "'`'", "'{'", "'a/'", "'a:'", "''", "'é'", "'"+strings.Repeat("n", 60)+"'", "'"+strings.Repeat("n", 61)+"'", "'x y'", "\"\\u0022\"", "7", "constructor", "static", "of")
}

func (w *writer) item() string {
	switch w.left--; {
	case w.left < 0:
		return ";"
	case w.Intn(5) == 0:
		return w.pick("let ", "const ") + w.declare() + w.pick("", ", "+w.declare()) + ";"
	case w.Intn(8) == 0:
		return w.pick("function ", "function* ") + w.name() + w.rest()
	case w.Intn(8) == 0:
		return w.class(w.name())
	}
	return w.statement()
}

func (w *writer) declare() string { return w.binding() + w.pick("", " = "+w.assign()) }

func (w *writer) rest() string {
	params := w.many(2, w.element, ",")
	if params != "" {
		params += w.pick("", ",", ", ..."+w.binding())
	}
	return "(" + params + ") {" + w.many(2, w.item, " ") + "}"
}

func (w *writer) element() string { return w.declare() }

func (w *writer) binding() string {
	w.left--
	if w.left < 0 {
		return w.name()
	}
	switch w.Intn(5) {
	case 0:
		return "[" + w.many(3, func() string { return w.pick(w.element(), "") }, ",") + w.pick("", ",", ", ..."+w.binding()) + "]"
	case 1:
		part := func() string { return w.pick(w.name()+w.pick("", " = "+w.assign()), w.key()+": "+w.element()) }
		parts := w.many(3, part, ",")
		if parts != "" {
			parts += w.pick("", ",", ", ..."+w.name())
		}
		return "{" + parts + "}"
	}
	return w.name()
}

func (w *writer) class(name string) string {
	member := func() string {
		return w.pick("", "", "static ") + w.pick("", "", "*") + w.key() + w.rest()
	}
	return "class " + name + w.pick("", " extends "+w.unary()) + " {" + w.many(3, member, w.pick(" ", ";")) + "}"
}

func (w *writer) statement() string {
	w.left--
	if w.left < 0 {
		return w.name() + ";"
	}
	switch w.Intn(14) {
	case 0:
		return "{" + w.many(3, w.item, " ") + "}"
	case 1:
		return "if (" + w.assign() + ") " + w.statement() + w.pick("", " else "+w.statement())
	case 2:
		return w.pick("while ("+w.assign()+") "+w.statement(), "do "+w.statement()+" while ("+w.assign()+");")
	case 3:
		first := w.pick("", "let "+w.declare(), w.assign())
		return "for (" + first + "; " + w.pick("", w.assign()) + "; " + w.pick("", w.assign()) + ") " + w.statement()
	case 4:
		return "for (" + w.pick("let "+w.binding(), "const "+w.binding(), w.pattern()) + " of " + w.assign() + ") " + w.statement()
	case 5:
		caught := "catch " + w.pick("", "("+w.binding()+") ") + "{" + w.item() + "}"
		return "try {" + w.item() + "} " + w.pick(caught, "finally {"+w.item()+"}", caught+" finally {"+w.item()+"}")
	case 6:
		return w.pick("return;", "return "+w.assign()+";", "throw "+w.assign()+";", "break;", "continue a;", "break b;")
	case 7:
		return w.name() + ": " + w.statement()
	}
	s := w.assign()
	if n, f := Parse(s + ";"); f.Kind != api.OK || n.Kids[0].Kind != tree.Expr {
		s = "(" + s + ")"
	}
	return s + ";"
}

func (w *writer) pattern() string {
	w.left--
	if w.left < 0 {
		return w.name()
	}
	part := func() string { return w.pattern() + w.pick("", " = "+w.assign()) }
	switch w.Intn(6) {
	case 0:
		return "[" + w.many(3, func() string { return w.pick(part(), "") }, ",") + w.pick("", ",", ", ..."+w.pattern()) + "]"
	case 1:
		prop := func() string { return w.pick(w.name()+w.pick("", " = "+w.assign()), w.key()+": "+part()) }
		return "{" + w.many(3, prop, ",") + "}"
	case 2:
		return w.primary() + w.pick(".if", ".x", "["+w.assign()+"]")
	}
	return w.name()
}

func (w *writer) assign() string {
	w.left--
	if w.left < 0 {
		return w.name()
	}
	switch w.Intn(12) {
	case 0:
		return "(" + w.pattern() + " = " + w.assign() + ")"
	case 1:
		return w.name() + w.pick("", ".x", "["+w.assign()+"]") + w.pick(" = ", " += ", "%=") + w.assign()
	case 2:
		return w.pick(w.name(), "("+w.many(2, w.element, ",")+")") + " => " + w.pick(w.assign(), "{"+w.item()+"}", "({})")
	case 3:
		return "(" + w.pick("yield", "yield ("+w.assign()+")", "yield* "+w.assign()) + ")"
	case 4:
		return w.binary() + " ? " + w.assign() + " : " + w.assign()
	}
	return w.binary()
}

func (w *writer) binary() string {
	s := w.unary()
	for w.Intn(3) == 0 {
		s += w.pick(" ?? ", " || ", "&&", "===", "!==", "<", " in ", " instanceof ", " + ", " - ", "*", "/ ", "%", ">=") + w.unary()
	}
	return s
}

func (w *writer) unary() string {
	w.left--
	if w.left < 0 {
		return w.name()
	}
	switch w.Intn(9) {
	case 0:
		return w.pick("- ", "+ ", "!", "typeof ", "delete ") + w.unary()
	case 1:
		return w.pick("++ ", "-- ") + w.name() + w.pick("", ".x")
	case 2:
		return w.name() + w.pick("", ".x", "["+w.assign()+"]") + w.pick("++", "--")
	}
	return w.primary() + w.many(2, func() string { return w.pick(".x", ".if", "["+w.assign()+"]", w.args()) }, "")
}

func (w *writer) args() string {
	s := w.many(2, func() string { return w.pick("", "...") + w.assign() }, ",")
	if s != "" {
		s += w.pick("", ",")
	}
	return "(" + s + ")"
}

func (w *writer) primary() string {
	w.left--
	if w.left < 0 {
		return w.name()
	}
	switch w.Intn(14) {
	case 0:
		return "[" + w.many(3, func() string { return w.pick("", "...", "") + w.assign() }, w.pick(",", ",,")) + w.pick("", ",") + "]"
	case 1:
		prop := func() string {
			return w.pick(w.name(), w.key()+": "+w.assign(), w.pick("", "*")+w.key()+w.rest(), "..."+w.assign(), w.name()+" = "+w.assign())
		}
		return "{" + w.many(3, prop, ",") + "}"
	case 2:
		return w.pick("function ", "function* ") + w.pick("", w.name()) + w.rest()
	case 3:
		return w.class(w.pick("", w.name()))
	case 4:
		return "new " + w.primary() + w.pick("", ".x") + w.args()
	case 5:
		return w.pick("super"+w.args(), "super.x", "super.if")
	case 6:
		return "(" + w.assign() + ")"
	case 7:
		return w.pick("this", "null", "true", "false", "12", "'a\\n'", "\"é\"")
	}
	return w.name()
}

// P8.2, P7.1: what is printed parses to the Same tree; faults are within the source.
func TestRandomPrograms(t *testing.T) {
	w := &writer{Rand: rand.New(rand.NewSource(8))}
	good := 0
	for range 20000 {
		w.left = 5 + w.Intn(60)
		source := w.many(4, w.item, "\n")
		n, f := Parse(source)
		if f.Kind != api.OK {
			if f.Kind == api.ErrLex || f.Kind == api.ErrParse && !strings.Contains(source, "=>") {
				t.Fatalf("Parse(%q): fault %v", source, f)
			}
			continue
		}
		good++
		printed := tree.Print(n)
		again, f := Parse(printed)
		if f.Kind == api.ErrDepth {
			continue
		}
		if f.Kind != api.OK || !tree.Same(n, again) {
			t.Fatalf("%s\nis printed as\n%s\n%v", source, printed, f)
		}
		if tree.Print(again) != printed {
			t.Fatalf("%s\nis printed in another way", source)
		}
	}
	if good < 10000 {
		t.Errorf("only %d programs are parsed", good)
	}
}

// P0, P8.1: any tokens have a tree or a fault within the source.
func TestRandomTokens(t *testing.T) {
	rnd := rand.New(rand.NewSource(80))
	pieces := strings.Fields("a b of static 1 'x' ( ( ) ) [ ] { { } } . , , ; ; : ? ! = = => ... + - * ++ -- && ?? === < += let const function class extends if else for while do try catch finally return throw break continue new this super yield typeof delete in null constructor")
	w := &writer{Rand: rnd}
	for range 60000 {
		var l []string
		if rnd.Intn(2) == 0 {
			for range rnd.Intn(10) {
				l = append(l, pieces[rnd.Intn(len(pieces))])
			}
		} else {
			w.left = 20
			l = strings.Fields(w.item())
			i := rnd.Intn(len(l))
			l[i] = pieces[rnd.Intn(len(pieces))]
		}
		source := strings.Join(l, " ")
		n, f := Parse(source)
		switch {
		case f.Kind == api.OK && (n == nil || f.At != 0), f.Kind != api.OK && (n != nil || f.At < 0 || f.At > len(source)):
			t.Fatalf("Parse(%q): %v, fault %v", source, n, f)
		case f.Kind == api.OK:
			if again, f := Parse(tree.Print(n)); f.Kind != api.OK || !tree.Same(n, again) {
				t.Fatalf("%q is printed as %q: %v", source, tree.Print(n), f)
			}
		default:
			checkStart(t, source, f)
		}
	}
}

// checkStart checks that a fault is at a token or at the end.
func checkStart(t *testing.T, source string, f api.Fault) {
	t.Helper()
	tokens, _ := lex.Scan(source)
	for _, tok := range tokens {
		if tok.At == f.At {
			return
		}
	}
	if len(tokens) > 0 {
		t.Fatalf("Parse(%q): fault %v is at no token", source, f)
	}
}
