package early

import (
	"math/rand"
	"slices"
	"strings"
	"testing"

	"ossuary/api"
	"ossuary/parse"
	"ossuary/tree"
)

func parsed(t *testing.T, s string) *tree.Node {
	t.Helper()
	n, f := parse.Parse(s)
	if f.Kind != api.OK {
		t.Fatalf("Parse(%q): fault %v", s, f)
	}
	return n
}

func texts(l []*tree.Node) string {
	var out []string
	for _, n := range l {
		out = append(out, n.S)
	}
	return strings.Join(out, " ")
}

func TestNames(t *testing.T) {
	for s, want := range map[string]string{
		"let a, b = c, [d, , e = f, ...[g]] = h, {i, j: k, [l]: m = n, o = p, ...q} = r;": "a b d e g i k m o q",
		"const a = 1;": "a", "function f(a) { let b; }": "f", "class A extends B { c() {} }": "A",
		"a;": "", "{ let a; }": "", "for (let a;;) ;": "", "if (a) ; ": "", ";": "",
	} {
		n := parsed(t, s).Kids[0]
		if got := texts(Names(n)); got != want {
			t.Errorf("Names of %q: %s", s, got)
		}
		if n.Kind == tree.Func || n.Kind == tree.Class {
			if l := Names(n); l[0] != n {
				t.Errorf("Names of %q: another node", s)
			}
		}
	}
	n := parsed(t, "[a.b, c[d], [e], f = g] = h;").Kids[0].Kids[0]
	if got := texts(Names(n.Kids[0])); got != "e f" {
		t.Errorf("Names of a refined pattern: %s", got)
	}
	if Names(nil) != nil || Names(n) != nil || Names(&tree.Node{Kind: tree.PropPat}) != nil {
		t.Error("Names of what has none")
	}
	if l := Names(parsed(t, "let [a, a] = b;").Kids[0]); len(l) != 2 || l[0].At != 5 || l[1].At != 8 {
		t.Errorf("Names = %v", l)
	}
}

func TestDeclared(t *testing.T) {
	l := parsed(t, "let a, [b] = c; { let d; } function f() {} class C {} x; const e = 1; for (let g;;) ;").Kids
	if got := texts(Declared(l)); got != "a b f C e" {
		t.Errorf("Declared = %s", got)
	}
	if Declared(nil) != nil || Declared([]*tree.Node{nil, {Kind: tree.Name, S: "a"}}) != nil {
		t.Error("Declared of what declares nothing")
	}
}

// A source in which @ stands ahead of the place of the fault, or nowhere.
func checkSource(t *testing.T, s string) {
	t.Helper()
	at := strings.Index(s, "@")
	source := strings.Replace(s, "@", "", 1)
	n := parsed(t, source)
	want := api.Fault{}
	if at >= 0 {
		want = api.Fault{Kind: api.ErrEarly, At: at}
	}
	if got := Check(n); got != want {
		t.Errorf("Check(%q) = %v, not %v", source, got, want)
	}
	got, f := Source(source)
	if f != want || (got == nil) != (at >= 0) || got != nil && !tree.Same(got, n) {
		t.Errorf("Source(%q) = %v, %v", source, got, f)
	}
}

func TestScopes(t *testing.T) {
	for _, s := range []string{
		"let a; let @a;", "let a, @a;", "const a = 1; let b, [@a] = c;", "let {a, b: @a} = c;", "let [a, ...@a] = b;", "function f() {} let @f;", "let f; @function f() {}",
		"class A {} @class A {}", "function f() {} @function f() {}", "let a; { let a; }", "{ let a; let @a; }", "{ let a; { let b, a; } }", "{ function f() {} @class f {} }",
		"let a; function f() { let a; }", "a = function a() { let a; };", "let f; a = function f() {};", "let A; a = class A {};",
		"function f(a, @a) {}", "function f(a) { let @a; }", "function f(a) { { let a; } }", "function f([a, {b: @a}]) {}", "function f(a, ...@a) {}", "function f(a = b, @a) {}",
		"function f() { let f; }", "function f(f) {}", "function f(a) { @function a() {} }", "function f(a) { let b; @class a {} }", "function f() { let a, @a; }",
		"a = (b, @b) => c;", "a = (b) => { let @b; };", "a = b => { let c; let @c; };", "a = (b) => (b) => b;", "a = ({b, c: @b}) => c;",
		"class A { a(b, @b) {} }", "class A { a(b) { let @b; } }", "a = {b(c, @c) {}};", "a = {b(c) { let @c; }};", "class A { a() {} a() {} static a() {} }", "a = {b: 1, b: 2, b() {}};",
		"for (let a, @a;;) ;", "for (let a;;) { let a; }", "for (let a of b) { let a; }", "for (let [a, @a] of b) ;", "for (const {a, b: @a} of c) ;", "for ([a, a] of b) ;", "for (a of b) { let a; }",
		"let a; for (let a of a) ;", "[a, a] = b;", "({a, b: a} = c);",
		"try { let a; let @a; } catch {}", "try {} catch (a) { let @a; }", "try {} catch ([a, @a]) {}", "try {} catch (a) { { let a; } }", "try {} catch ({a}) { @function a() {} }", "try {} catch { let a, @a; }", "try {} finally { let a, @a; }",
		"try { let a; } catch (a) {} finally { let a; }", "let a; try {} catch (a) {}", "if (a) { let b, @b; }", "a: { let a; let @a; }", "while (a) { let b; let c, @b; }",
	} {
		checkSource(t, s)
	}
}

func TestOrderOfScopes(t *testing.T) {
	for _, s := range []string{
		"{ break; } let a, @a;", "const a; let @a;", "{ { let a, a; } let b; let @b; }",
		"function f(a = (() => { let b, b; })(), @a) {}", "function f(a = (() => { let b, @b; })()) { let a; }", "function f(a) { { let b, b; } let @a; }",
		"function f([a = delete b, @a]) {}", "function f(a = @delete b) { let a; }", "function f(a, a) {} @function f() {}",
		"for (const a, @a;;) ;", "for (let a, @a; delete b;) break;", "for (let [a = delete b, @a] of c) ;", "for (let a of @delete b) { let a, a; }",
		"try { @delete a; } catch (b) { let b; }", "try {} catch ([a = delete b, @a]) {}", "try {} catch (a) { delete b; let @a; }", "try {} catch ([a = @delete b]) { delete c; }", "try {} catch (a) { @delete b; } finally { let a, a; }", "try { let a, @a; } catch (b) { let b; }",
	} {
		checkSource(t, s)
	}
}

func TestDeclares(t *testing.T) {
	for _, s := range []string{
		"let a;", "const @a;", "const a = 1, @b;", "let @[a];", "let @{a};", "let a, @{b}, c;", "let [a] = b;", "for (const @a;;) ;", "for (let @[a];;) ;", "for (const a of b) ;", "for (let [a] of b) ;", "for (let a;;) ;",
		"let a = delete b, @[c];", "let a = @delete b, c;", "{ const @a; }", "function f() { const @a; }", "const a = 1, @[b], c;",
	} {
		checkSource(t, s)
	}
}

func TestJumps(t *testing.T) {
	for _, s := range []string{
		"@return;", "@return delete a;", "{ @return 1; }", "function f() { return; }", "a = () => { return 1; };", "class A { a() { return; } }", "a = {b() { return; }};", "while (a) @return;",
		"@break;", "@continue;", "while (a) break;", "while (a) { if (b) continue; }", "do break; while (a);", "for (;;) continue;", "for (a of b) break;", "{ @break; }", "if (a) @continue;", "for (;;) { } @break;",
		"a: { @break; }", "a: { break a; }", "a: break a;", "a: { @continue a; }", "a: { @continue; }", "a: while (b) continue a;", "a: for (;;) break a;", "a: { while (b) { @continue a; } }", "a: { while (b) { break a; } }",
		"a: b: while (c) { continue a; }", "a: b: while (c) { continue b; }", "a: b: { while (c) @continue a; }", "a: { b: while (c) { continue b; } }", "a: { b: while (c) { @continue a; } }",
		"a: for (;;) for (;;) continue a;", "@break a;", "a: ; @break a;", "while (b) @break a;", "while (b) @continue a;", "a: { } b: { @break a; }",
		"a: @a: ;", "a: { @a: ; }", "a: ; a: ;", "a: { b: ; } b: ;", "a: b: @a: ;", "a: while (b) { @a: ; }", "a: { function f() { a: ; } }",
		"while (a) { function f() { @break; } }", "while (a) b = () => { @continue; };", "a: while (b) { c = function () { @break a; }; }", "a: for (;;) { class A { b() { @continue a; } } }",
		"function f() { a: while (b) continue a; }", "try { @break; } catch {}", "while (a) try { break; } finally { continue; }", "a: { break a; @break b; }",
		"a: { class B { [function () { @break a; }]() {} } }",
	} {
		checkSource(t, s)
	}
}

func TestYield(t *testing.T) {
	for _, s := range []string{
		"@yield;", "@yield* a;", "(@yield);", "function f() { @yield; }", "function* f() { yield; }", "function* f() { yield* a; { if (b) yield 1; } }", "function* f(a = @yield) {}", "function* f([a = @yield]) {}",
		"function* f() { function g() { @yield; } }", "function* f() { a = () => @yield; }", "function* f() { a = () => { @yield; }; }", "function* f() { a = (b = @yield) => b; }", "function* f() { function g(a = @yield) {} }", "function* f() { function* g(a = @yield) {} }",
		"function* f() { function* g() { yield; } yield; }", "function* f() { class A extends (yield) { [yield]() {} } }", "function* f() { class A { a() { @yield; } } }", "function* f() { a = {[yield]() {}, b: yield}; }", "function* f() { a = {b() { @yield; }}; }",
		"a = {*b() { yield; }};", "a = {*b(c = @yield) {}};", "class A { *a() { yield; } static *b() { yield; } }", "class A { [@yield]() {} }", "class A extends (@yield) {}", "a = function* () { yield; };", "function* f() { for (const a of yield) ; }", "a => @yield;", "while (@yield) ;",
	} {
		checkSource(t, s)
	}
}

func TestSuper(t *testing.T) {
	for _, s := range []string{
		"@super();", "@super.a;", "function f() { @super(); }", "function f() { @super.a; }", "class A { constructor() { @super(); } }", "class A extends B { constructor() { super(); } }", "class A extends B { constructor(a = super()) {} }",
		"class A extends B { a() { @super(); } }", "class A extends B { static constructor() { @super(); } }", "class A extends B { ['constructor']() { @super(); } }", "class A extends B { constructor() { a = () => @super(); } }", "class A extends B { constructor() { function f() { @super(); } } }",
		"class A extends B { constructor() { class C { [super()]() {} } } }", "class A extends B { constructor() { class C extends super() {} } }", "class A extends B { constructor() { class C { constructor() { @super(); } } } }", "class A extends B { constructor() { a = {b() { @super(); }}; } }",
		"class A { a() { super.b; } }", "class A { constructor() { super.a(); } }", "class A { static a() { super.b; } }", "class A { *a(b = super.c) { super.d; } }", "a = {b() { super.c; }};", "a = {b: () => @super.c};", "a = {b: function () { @super.c; }};", "a = {[@super.b]() {}};",
		"class A { a() { b = () => () => super.c; } }", "class A { a() { b = (c = super.d) => c; } }", "class A { a() { function f() { @super.b; } } }", "class A { a() { function f() { b = () => @super.c; } } }", "class A { [@super.a]() {} }", "class A extends @super.a {}", "class A { a() { class B extends super.b { [super.c]() {} } } }",
		"a = () => @super.b;",
	} {
		checkSource(t, s)
	}
}

func TestDeleteAndProps(t *testing.T) {
	for _, s := range []string{
		"delete a.b;", "delete a[b];", "delete (a.b);", "@delete a;", "@delete (a);", "@delete 1;", "@delete a();", "@delete this;", "@delete new A();", "class A { a() { @delete super.b; } }", "class A { a() { delete super.b.c; } }", "@delete delete a;", "delete a[@delete b];", "delete a().b;", "- @delete a;", "typeof a;", "!a; +a;", "@delete -a;", "@delete a++;",
		"a = {b @= 1};", "({a, b @= delete c});", "({a = 1} = b);", "[{a = 1}] = b;", "({a: {b = 1}} = c);", "({a: {b @= 1}.c} = d);", "for ({a = 1} of b) ;", "({a = 1}) => b;", "f({a @= 1});", "({a = {b @= 1}} = c);", "({a: @delete b, c = 1});",
	} {
		checkSource(t, s)
	}
}

func TestClasses(t *testing.T) {
	for _, s := range []string{
		"class A { constructor() {} @constructor() {} }", "class A { constructor() {} static constructor() {} ['constructor']() {} }", "class A { 'constructor'() {} b() {} @constructor() {} }",
		"class A { @static prototype() {} }", "class A { prototype() {} }", "class A { static ['prototype']() {} }", "class A { @static *prototype() {} }", "class A { @static 'prototype'() {} }", "class A { @*constructor() {} }", "class A { static *constructor() {} }", "class A { *['constructor']() {} }", "class A { constructor() {} @*constructor() {} }", "class A { @*'constructor'() {} }",
		"class A extends (class { @static prototype() {} }) { *constructor() {} }", "class A { a() { @delete b; } *constructor() {} }", "class A { [@delete b]() {} *constructor() {} }", "class A { @*constructor() { delete b; } }", "class A { constructor() { @delete a; } constructor() {} }", "class A { constructor() {} @constructor() { delete a; } }", "class A { constructor() {} b(c, @c) {} constructor() {} }",
		"a = class { constructor() {} @constructor() {} };", "class A extends (@delete b) { static prototype() {} }", "class A { 1() {} 1() {} static 1() {} }",
	} {
		checkSource(t, s)
	}
}

func TestOrderInExpressions(t *testing.T) {
	for _, s := range []string{
		"f(@delete a, delete b);", "(@delete a) + delete b;", "a ? @delete b : delete c;", "a[@delete b] = delete c;", "let a = @delete b; let c = delete d;", "if (@delete a) break; else break;", "for (let a = @delete b; delete c; delete d) break;", "for (;; @delete a) break;",
		"for (const a of @delete b) delete c;", "do @delete a; while (delete b);", "a: { @delete b; break c; }", "[a = @delete b] = delete c;", "({[@delete a]: b = delete c} = d);", "@delete delete a;",
	} {
		checkSource(t, s)
	}
}

func TestSource(t *testing.T) {
	for s, f := range map[string]api.Fault{
		"let a; let a":                       {Kind: api.ErrParse, At: 12},
		"let a; let a @":                     {Kind: api.ErrLex, At: 13},
		"let a; let a;":                      {Kind: api.ErrEarly, At: 11},
		"1 = 2;":                             {Kind: api.ErrEarly, At: 0},
		strings.Repeat(" ", api.MaxSource+1): {Kind: api.ErrSize, At: api.MaxSource},
		strings.Repeat("{", 70):              {Kind: api.ErrDepth, At: 60},
	} {
		if n, got := Source(s); n != nil || got != f {
			t.Errorf("Source(%.40q) = %v, %v", s, n, got)
		}
	}
	if n, f := Source(""); n == nil || f.Kind != api.OK {
		t.Errorf("Source of nothing: %v, %v", n, f)
	}
	if f := Check(nil); f != (api.Fault{}) {
		t.Errorf("Check(nil) = %v", f)
	}
}

// P0: nothing panics for nodes without what they should have below them.
func TestAnyNodes(t *testing.T) {
	for kind := -1; kind < 70; kind++ {
		for _, flags := range []int{0, tree.Brief, tree.Arrow | tree.Heir, tree.Maker | tree.Static} {
			for _, kids := range [][]*tree.Node{nil, {nil}, {nil, nil, nil, nil}, {{}, {}, {}, {}}, {{Kind: kind}, {Kind: kind}}} {
				n := &tree.Node{Kind: kind, Flags: flags, S: "delete", Kids: kids}
				Names(n)
				Declared([]*tree.Node{n})
				Check(n)
				Check(&tree.Node{Kind: tree.Program, Kids: []*tree.Node{n, n}})
			}
		}
	}
}

// P9.2: a source has a tree or a fault, and which it is doesn't depend on offsets.
func TestRandomSources(t *testing.T) {
	rnd := rand.New(rand.NewSource(9))
	pieces := []string{"let a;", "let b = 1;", "const a = b;", "{", "}", "{", "}", "function f(a) {", "}", "function* g() { yield;", "}", "a: ", "b: ", "while (a) ", "for (let a of b) ", "break;", "continue a;", "break b;", "return;", "class A extends B { constructor() { super(); } }", "try {", "} catch (a) {", "} finally {", "delete a.b;", "({a = 1} = b);", "yield;"}
	counts := map[api.Errno]int{}
	for range 60000 {
		var l []string
		for range 1 + rnd.Intn(8) {
			l = append(l, pieces[rnd.Intn(len(pieces))])
		}
		s := strings.Join(l, " ")
		n, f := Source(s)
		counts[f.Kind]++
		if (n == nil) == (f.Kind == api.OK) || f.At < 0 || f.At > len(s) {
			t.Fatalf("Source(%q) = %v, %v", s, n, f)
		}
		if f.Kind != api.OK && f.Kind != api.ErrEarly {
			continue
		}
		_, again := Source("/* " + strings.Join(l, "\n") + " */ " + strings.Join(l, "  "))
		if again.Kind != f.Kind {
			t.Fatalf("%q: %v, but %v", s, f, again)
		}
	}
	if slices.Min([]int{counts[api.OK], counts[api.ErrEarly], counts[api.ErrParse]}) < 1000 {
		t.Errorf("%v", counts)
	}
}
