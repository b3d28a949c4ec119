package compile

import (
	"math/rand"
	"slices"
	"strings"
	"testing"

	"ossuary/api"
	"ossuary/code"
	"ossuary/early"
	"ossuary/text"
	"ossuary/tree"
)

var globals = []string{"undefined", "NaN", "Infinity", "print", "Object"}

func compiled(t *testing.T, s string) *code.Func {
	t.Helper()
	n, f := early.Source(s)
	if f.Kind != api.OK {
		t.Fatalf("Source(%q): fault %v", s, f)
	}
	out := Compile(n, globals)
	if !out.Right() {
		t.Errorf("the code of %q isn't valid:\n%s", s, out.Show())
	}
	return out
}

// The pieces have something of each kind of node, in each of its forms.
func pieces() []string {
	return []string{
		"1;", ";", "let a;", "let b = 1, c = function () {};", "const d = class {};", "let [e, , f = 1, ...g] = h;", "let {i, j: k = 2, [l]: m, 1: n, ...o} = p;", "{ let a; const b = a; function c() { return a; } }",
		"if (a) b;", "if (a) b; else if (c) d; else e;", "while (a) { break; }", "do { continue; } while (a);", "for (;;) break;", "for (let q = 0, r; q < r; q++) { s = () => q; }", "for (const q = 0; ; ) { break; }", "for (q = 0; q; ) ;", "for (const t of u) t;", "for (let [t, {u}] of u) break;", "for (v.w of x) ;", "for (v[w] of x) ;", "for ([v, w.x] of y) ;", "for (y of z) continue;",
		"aa: for (;;) { for (;;) { continue aa; } }", "bb: { break bb; }", "cc: dd: while (a) { if (b) break cc; continue dd; }", "ee: ff: { gg: { break ee; } }",
		"try { a; } catch { b; }", "try { a; } catch (b) { let c; b; }", "try { a; } catch ([b, {c}]) { let d; }", "try { a; } finally { b; }", "try { a; } catch (b) { throw b; } finally { for (;;) break; }", "for (;;) { try { break; } finally { continue; } }", "throw a;",
		"function f1(a, b = a, [c, d] = b, ...e) { let f = a; return f; return; }", "function* g1(a) { yield; yield a; yield* a; const b = yield; return b; }", "function f2(...[a]) { function b() {} b(); class c {} }",
		"a = (b, ...c) => { return this; };",
		"class A1 {}", "class A2 extends B { constructor(a) { super(a, ...b); this.c = super.d; super.e(1); } static f() { return super.g(); } *h() { yield; } [i]() {} 1() {} static [j]() {} 'k'() {} }", "class A3 extends null {}", "class A4 extends (class {}) { constructor() { super(); } }", "a = class B { constructor() { B = 1; } };",
		"a = [1, , ...b, 'c', [d],];", "a = {b, c: 1, 'd': 2, 3: 4, [e]: 5, f() {}, *g() {}, [h]() {}, ...i, j: function () {}, k: class {}, 4: () => 1, l: (() => 1)};",
		"-a; +a; !a; typeof a; typeof b.c; typeof undeclared; delete a.b; delete a[b];", "a++; ++a; a.b--; --a.b; a[b]++; ++a[b]; undeclared++; NaN--;", "a + b - c * d / e % f; a < b; a > b; a <= b; a >= b; a === b; a !== b; a in b; a instanceof b;",
		"a && b || c ?? d;", "a ? b : c;", "a = b; a += b; a.b = c; a.b -= c; a[b] = c; a[b] *= c; undeclared = 1; undeclared /= 1; undefined = 1; Infinity %= 1;", "[a, b.c, d[e] = f, ...g.h] = i;", "({a, b: c.d = e, [f]: g[h], ...i.j} = k);", "[] = {} = a;", "({} = a);",
		"a(); a(b, c); a(...b); a.b(c); a[b](...c, d); new A(); new A.b(c); new A(...b);", "this; null; true; false; 'a'; print(undefined); let undefined2 = Object;",
		"let print; print = print;", "const zz = 1; zz = 2; zz++; [zz] = a; for (zz of a) ;", "({a: function () {}}).a = function () {};", "a = (((function () {})));",
	}
}

func TestPieces(t *testing.T) {
	for _, s := range pieces() {
		f := compiled(t, s)
		if f.Generator || f.Arrow || f.Method || f.Class || f.Heir || f.Name != "" || f.Params != 0 {
			t.Errorf("the program %q has properties of a function", s)
		}
	}
	if f := compiled(t, "1;"); f.Ins[len(f.Ins)-1].Op != code.Return {
		t.Error("code doesn't end with a Return")
	}
}

// P12.1, and that only what Same holds against another tree is compiled.
func TestRandomPrograms(t *testing.T) {
	rnd := rand.New(rand.NewSource(12))
	l := pieces()
	for range 5000 {
		var parts []string
		for range 1 + rnd.Intn(4) {
			s := l[rnd.Intn(len(l))]
			switch rnd.Intn(6) {
			case 0:
				s = "{ " + s + " }"
			case 1:
				s = "x1 = function* () { " + s + " };"
			case 2:
				s = "for (const x1 of x2) { let x3; try { " + s + " } finally { x3; } }"
			case 3:
				s = "class X1 { constructor(x) { " + s + " } }"
			}
			parts = append(parts, s)
		}
		s := strings.Join(parts, "\n")
		n, fault := early.Source(s)
		if fault.Kind != api.OK {
			continue
		}
		f := Compile(n, globals)
		if !f.Right() {
			t.Fatalf("the code of %q isn't valid", s)
		}
		again, fault := early.Source("/* moved */\n" + tree.Print(n))
		if fault.Kind == api.OK && Compile(again, globals).Show() != f.Show() {
			t.Fatalf("%q has other code if it is printed", s)
		}
		if Compile(n, globals).Show() != f.Show() {
			t.Fatalf("%q has other code the second time", s)
		}
	}
}

// find returns the instructions of an operation.
func find(f *code.Func, op int) []code.Ins {
	var l []code.Ins
	for _, x := range f.Ins {
		if x.Op == op {
			l = append(l, x)
		}
	}
	return l
}

func TestGlobals(t *testing.T) {
	f := compiled(t, "let a; print(a, Object); undefined;")
	want := []code.Ins{{Op: code.Get, A: 1, B: 3}, {Op: code.Get}, {Op: code.Get, A: 1, B: 4}, {Op: code.Get, A: 1}}
	if got := find(f, code.Get); !slices.Equal(got, want) {
		t.Errorf("reads %v", got)
	}
	if f.Bindings != 1 {
		t.Errorf("%d bindings", f.Bindings)
	}
	f = compiled(t, "undefined = 1; NaN = 1; Infinity = 1; print = 1; Object = 1;")
	if len(find(f, code.Locked)) != 3 || !slices.Equal(find(f, code.Set), []code.Ins{{Op: code.Set, A: 1, B: 3}, {Op: code.Set, A: 1, B: 4}}) {
		t.Errorf("%s", f.Show())
	}
	if f = Compile(&tree.Node{Kind: tree.Program}, nil); !f.Right() || f.Bindings != 0 {
		t.Errorf("the empty program: %s", f.Show())
	}
	n, _ := early.Source("print(a);")
	if got := find(Compile(n, []string{"x", "a", "x", "print"}), code.Get); !slices.Equal(got, []code.Ins{{Op: code.Get, A: 1, B: 3}, {Op: code.Get, A: 1, B: 1}}) {
		t.Errorf("with a name that is there twice: %v", got)
	}
	if f = Compile(n, nil); len(find(f, code.Unknown)) != 2 {
		t.Errorf("without globals: %s", f.Show())
	}
}

func TestFunctions(t *testing.T) {
	f := compiled(t, "function f(a, b, c = 1, d) { let e; } function* g(...a) {} class A extends B { constructor(a) { super(); } m() {} } let h = () => 1, i = {j() {}};")
	type props struct {
		name                              string
		params, bindings                  int
		generator, arrow, method, cl, her bool
	}
	var got []props
	for _, x := range f.Funcs {
		got = append(got, props{x.Name, x.Params, x.Bindings, x.Generator, x.Arrow, x.Method, x.Class, x.Heir})
	}
	want := []props{
		{"f", 2, 5, false, false, false, false, false}, {"g", 0, 1, true, false, false, false, false},
		{"A", 1, 1, false, false, true, true, true}, {"", 0, 0, false, false, true, false, false},
		{"h", 0, 0, false, true, false, false, false}, {"", 0, 0, false, false, true, false, false},
	}
	if !slices.Equal(got, want) {
		t.Errorf("functions %v", got)
	}
	if names := find(f, code.Name); len(names) != 2 || f.Consts[names[0].A] != text.Val("m") || f.Consts[names[1].A] != text.Val("j") {
		t.Errorf("names %v", names)
	}
}

// P0: programs nested as deep as they may be, and as long, are compiled.
func TestLargePrograms(t *testing.T) {
	for _, s := range []string{
		strings.Repeat("{", 60) + strings.Repeat("}", 60), "a" + strings.Repeat(" + a", 4000) + ";", "a" + strings.Repeat(".b", 8000) + ";", "a" + strings.Repeat(" && a", 3000) + ";", strings.Repeat("a;", 8000), strings.Repeat("new ", 2500) + "a" + strings.Repeat("()", 2500) + ";",
		"print(" + strings.Repeat("1,", 8000) + ");", strings.Repeat("function f() {", 60) + strings.Repeat("}", 60), "[" + strings.Repeat(",", 16000) + "] = a;",
	} {
		compiled(t, s)
	}
}
