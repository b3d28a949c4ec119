package vm_test

import (
	"math"
	"slices"
	"strings"
	"testing"

	"ossuary/api"
	"ossuary/code"
	"ossuary/heap"
	"ossuary/text"
	"ossuary/value"
	"ossuary/vm"
)

func whole(n int) api.Val { return api.Val{K: api.Int, N: int64(n)} }

const (
	hard = " ! end 6"
	fuel = " ! end 3"
	deep = " ! end 4"
	full = " ! end 5"
)

// What differs from other implementations of the language, as the chapter says.
func TestWhatIsDifferent(t *testing.T) {
	for _, c := range [][2]string{
		{`print(1); print(1 / 2);`, "1" + hard}, {`9007199254740991 + 1;`, hard}, {`let a = 9007199254740991; a++;`, hard}, {`let a = -9007199254740991; --a;`, hard}, {`3037000500 * 3037000500;`, hard},
		{`({}) + 1;`, hard}, {`1 - {};`, hard}, {`"1" - 1;`, hard}, {`-"1";`, hard}, {`+"";`, hard}, {`"1" < 2;`, hard}, {`"a" < "b" && print("texts");`, "texts"}, {`print("1" === 1);`, "false"}, {`({})[{}];`, hard}, {`({}) in {};`, hard}, {`({[{}]: 1});`, hard}, {`let {[{}]: a} = {};`, hard}, {`class A { [{}]() {} }`, hard}, {`let a = "1"; a++;`, hard}, {`let a = {}; a += "";`, hard}, {`+{};`, hard}, {`delete ({})[{}];`, hard}, {`({})[{}] = 1;`, hard}, {`"" + (() => 1);`, hard},
		{`iterator + {};`, " ! TypeError"}, {`({}) + iterator;`, hard}, {`-iterator;`, " ! TypeError"}, {`null[{}];`, " ! TypeError"}, {`({}) in 1;`, " ! TypeError"},
		{`let s = "x"; for (let i = 0; i < 16; i++) s += s; print(s.length); s + "y";`, "65536" + hard},
		{`let a = []; a[9999] = 1; print(a.length, a[10000]); a[10000] = 1;`, "10000 undefined" + hard}, {`let a = []; a["007"] = 1;`, hard}, {`let a = []; a["00"] = 1;`, hard}, {`let a = []; a["1x"] = 1; a[""] = 2; a[-1] = 3; print(a.length, a["1x"], a[""], a[-1]);`, "0 1 2 3"}, {`({})["007"] = 1; ({})[10000] = 1; print(1);`, "1"}, {`print(delete [][10000], 10000 in []);`, "true false"},
		{`let a = []; a.length = 10000; print([...a].length); [...a, 1];`, "10000" + hard}, {`let a = []; a.length = 10000; [0, ...a];`, hard}, {`let a = []; a.length = 10000; let [...b] = a; print(b.length);`, "10000"}, {`function* g() { for (;;) yield 1; } [...g()];`, hard}, {`function* g() { for (;;) yield 1; } let [...a] = g();`, hard},
		{`let a = []; a.length = 1000; function f(...x) { print(x.length); } f(...a); f(...a, 1);`, "1000" + hard}, {`let a = []; a.length = 1001; new (function () {})(...a);`, hard}, {`let a = []; a.length = 1001; print(...a);`, hard}, {`class A { constructor(...x) { print(x.length); } } class B extends A { constructor() { let a = []; a.length = 1001; super(...a); } } new B();`, hard},
		{`let a = []; for (const l of [-1, 10001, "1", null, {}, true, -0, NaN]) { try { a.length = l; print("no"); } catch (e) { print(e instanceof TypeError); } }`, strings.TrimSuffix(strings.Repeat("true; ", 8), "; ")},
		{`print(typeof nope); nope;`, "undefined ! ReferenceError"}, {`nope = print("first");`, "first ! ReferenceError"}, {`nope();`, " ! ReferenceError"}, {`nope += print("no");`, " ! ReferenceError"}, {`let print2 = print; let print = 1; print2(print);`, " ! ReferenceError"}, {`let undefined = 1; undefined++;`, ""}, {`print = 1;`, ""}, {`typeof undefined; NaN = 2;`, " ! TypeError"},
		{`function* g(a = print("bound")) { yield a; } let i = g(); print("made"); i.next();`, "made; bound"}, {`function* g(a = nope) { yield 1; } let i = g(); print(1); i.next();`, "1 ! ReferenceError"}, {`function* g([a]) { yield a; } let i = g(); print(1); i.next();`, "1 ! TypeError"},
		{`class A {} let f; class B extends A { constructor() { f = () => this; super(); } } new B(); f();`, " ! ReferenceError"}, {`print(this); print((() => this)());`, "undefined; undefined"}, {`function f() { return typeof arguments; } print(f(1));`, "undefined"}, {`let arguments = 1; print(arguments);`, "1"},
		{`let f = function () { }; print(({1: f}).x, ({1: function () {}})[1].name === "", ({["a"]: () => 1}).a.name === "", ({["a"]() {}}).a.name === "", (class { static 1() {} })[1].name === "", (class { static ["b"]() {} }).b.name === "", ({["c"]: class {}}).c.name === "");`, "undefined true true true true true true"},
		{`let v; (v) = (function () {}); print(v.name); let o = {a: (() => 1)}; print(o.a.name);`, "v; a"},
		{`let s = ""; for (let i = 0; i < 14; i++) s = (s || "x") + (s || "x"); print(s.length, s[9999], s[10000], s["00"]); let o = {...s}; print(o[10000], o[16383], o[16384]); let {...p} = s; print(p[12000]);`, "16384 x undefined undefined; x x undefined; x"},
		{`let p = {...[1]}; print("5" in p, "abc"[5], "abc"["3"]);`, "false undefined undefined"},
		{`super1: { break super1; }`, ""}, {`let o = {f() { return super.f; }, g() { return () => super.g; }}; print(o.f(), o.g()());`, "undefined undefined"}, {`let a = [5]; let o = {f() { return super.me; }}; class A { m() { return super.x; } } print(new A().m(), a.me === a);`, "undefined true"},
		{`for (let x of [1]) { x = 2; print(x); } for (const x of [1]) x = 2;`, "2 ! TypeError"}, {`for (const i = 0; ; ) { i = 1; }`, " ! TypeError"}, {`for (const [a] of ["x"]) { try { a = 1; } catch (e) { print(e instanceof TypeError); } }`, "true"}, {`for (let i = 0; i < 3; i++) { a: { if (i === 1) break; print(i); break a; } } for (let i = 0; i < 3; i++) { a: { if (i < 2) continue; print(i); } print("end"); }`, "0; 2; end"},
		{`fail();`, " ! TypeError"}, {`throw 1;`, " ! value"}, {`throw fail;`, " ! value"}, {`print(); print("a\n\\");`, "; a\\u000A\\\\"}, {`let f = function me() { return typeof me; }; print(f());`, "function"},
		{`let x = {a: 1}; let {a: x2, ...y} = x; print(y.a, x2);`, "undefined 1"}, {`delete null.a;`, " ! TypeError"}, {`let a = [1]; a.me = 2;`, " ! TypeError"}, {`delete [].length;`, " ! TypeError"}, {`delete (function () {}).prototype;`, " ! TypeError"}, {`print(delete (function () {}).name);`, "true"}, {`(class { static ["prototype"]() {} });`, " ! TypeError"}, {`(class {}).prototype = 1;`, " ! TypeError"},
	} {
		check(t, c[0], c[1])
	}
}

// What is on its way out of something in progress isn't collected.
func TestValuesOnTheirWay(t *testing.T) {
	for _, c := range [][2]string{
		{`function f() { try { return {a: 1}; } finally { (() => 1)(); } } print(f().a);`, "1"}, {`function f() { try { try { return {a: 2}; } finally { try { throw {a: 3}; } finally { (() => 1)(); } } } catch (e) { return e; } } print(f().a);`, "3"}, {`function f() { for (const x of {[iterator]() { return {next() { return {done: false}; }, return() { (() => 1)(); return {}; }}; }}) return {a: 4}; } print(f().a);`, "4"}, {`try { for (const x of {[iterator]() { return {next() { return {done: false}; }, return() { (() => 1)(); return {}; }}; }}) throw {a: 5}; } catch (e) { print(e.a); }`, "5"},
		{`function* g() { try { yield; } finally { (() => 1)(); yield {a: 6}; } } let i = g(); i.next(); print(i.return({a: 7}).value.a, i.next().value.a);`, "6 7"}, {`print(({a: 8}).a + (() => 1)(), [{a: 9}, (() => 1)()][0].a);`, "9 9"}, {`function* g() { yield* [1]; let x = yield 2; print(x); yield* [3]; x = yield 4; print(x); } let i = g(); i.next(); i.next(); i.next("a"); i.next(); i.next("b");`, "a; b"}, {`let {0: a, ...r} = "abc"; print(a, r[1], r[2], r[0]); let {[1]: b, ...q} = {0: "x", 1: "y", 2: "z"}; print(b, q[0], q[1], q[2]);`, "a b c undefined; y x undefined z"},
		{`let a = []; a.length = 1000; class A { constructor(...x) { print(x.length); } } new A(...a); construct(A, ...a.length ? [1] : []);`, "1000; 1"}, {`function* g() { yield* {[iterator]() { return {next() { (() => 1)(); return {done: false, value: {a: 1}}; }}; }}; } for (const x of g()) { (() => 1)(); print(x.a); break; }`, "1"}, {`class A { constructor() { (() => 1)(); this.a = 1; } } class B extends A { constructor() { super({}); (() => 1)(); } } print(new B().a);`, "1"}, {`let f = ((o) => () => o)({a: 1}); (() => 1)(); print(f().a); let [x = (() => ({a: 2}))(), y = (() => 1)()] = []; print(x.a, y);`, "1; 2 1"},
	} {
		check(t, c[0], c[1])
	}
}

// A run may have just as many cells as Cells says.
func TestCellsAtTheBound(t *testing.T) {
	base := world(wide, api.Script{}).Count()
	for extra, want := range map[int]string{0: full, 1: full, 2: "", 3: ""} {
		m, v, end := run(t, "(() => 1)();", api.Bounds{Fuel: 99, Depth: 9, Cells: base + extra}, api.Script{})
		if got := outcome(m, v, end); got != want || want == "" && m.Swept != 0 {
			t.Errorf("with %d cells more: %s, %d collections", extra, got, m.Swept)
		}
	}
	m := vm.New(host{}, wide, api.Script{})
	n := &heap.Obj{}
	for range 2 * api.MaxCells {
		m.Heap.Arena.Make(n)
	}
	if !m.Spend(1) || m.Array(make([]api.Val, api.MaxArray)) == (api.Val{}) || m.Spend(1) {
		t.Error("the greatest number of cells")
	}
}

func TestBounds(t *testing.T) {
	for _, c := range []struct {
		s    string
		b    api.Bounds
		want string
	}{
		{"for (;;) { }", api.Bounds{Fuel: 1000, Depth: 9, Cells: 1000}, fuel}, {"", api.Bounds{Fuel: 0, Depth: 9, Cells: 1000}, fuel}, {"", api.Bounds{Fuel: 1, Depth: 9, Cells: 1000}, fuel}, {"", api.Bounds{Fuel: 2, Depth: 0, Cells: 0}, ""},
		{"for (;;) { }", api.Bounds{Fuel: -5, Depth: 9, Cells: 1000}, fuel}, {"function f() { f(); } f();", api.Bounds{Fuel: math.MaxInt, Depth: math.MaxInt, Cells: math.MaxInt}, deep},
		{"function f(n) { if (n) f(n - 1); } f(9); print(1); f(10);", api.Bounds{Fuel: 9999, Depth: 10, Cells: 1000}, "1" + deep}, {"print(1);", api.Bounds{Fuel: 9999, Depth: 0, Cells: 1000}, deep}, {"print(1);", api.Bounds{Fuel: 9999, Depth: 1, Cells: 1000}, "1"}, {"(() => print(1))();", api.Bounds{Fuel: 9999, Depth: 1, Cells: 1000}, deep}, {"(() => print(1))();", api.Bounds{Fuel: 9999, Depth: -1, Cells: 1000}, deep},
		{"function* g() { yield 1; } let i = g(); print(2);", api.Bounds{Fuel: 9999, Depth: 1, Cells: 1000}, "2"}, {"function* g() { yield 1; } g().next();", api.Bounds{Fuel: 9999, Depth: 1, Cells: 1000}, deep}, {"function* g() { yield 1; } print(g().next().value);", api.Bounds{Fuel: 9999, Depth: 2, Cells: 1000}, "1"}, {"for (let i = 0; i < 50; i++) (() => 1)(); print(1);", api.Bounds{Fuel: 9999, Depth: 1, Cells: 1000}, "1"},
		{"function* g() { yield* h(); } function* h() { yield 1; } for (const x of g()) ; print(1);", api.Bounds{Fuel: 9999, Depth: 4, Cells: 1000}, "1"}, {"new (class { constructor() { new (class {})(); } })();", api.Bounds{Fuel: 9999, Depth: 1, Cells: 1000}, deep},
		{"print(1); for (;;) junk();", api.Bounds{Fuel: 9999, Depth: 9, Cells: 1000}, "1" + fuel}, {"print(1); while (true) { }", api.Bounds{Fuel: 9999, Depth: 9, Cells: 9}, "1" + full}, {"let l = {}; for (;;) l = {l};", api.Bounds{Fuel: 99999, Depth: 9, Cells: 1000}, full}, {"let l; for (;;) l = {a: {}};", api.Bounds{Fuel: 99999, Depth: 9, Cells: 1000}, fuel}, {"function f(x) { f({x}); } f();", api.Bounds{Fuel: 99999, Depth: 200, Cells: 150}, full}, {"print(1); junk();", api.Bounds{Fuel: 9999, Depth: 9, Cells: -1}, "1"},
	} {
		for _, script := range []api.Script{{}, {All: true}} {
			m, v, end := run(t, c.s, c.b, script)
			if got := outcome(m, v, end); got != c.want {
				t.Errorf("%s with %v ended as %s, not as %s", c.s, c.b, got, c.want)
			}
			if m.Steps > max(c.b.Fuel, 0) || m.End == api.EndFuel && m.Steps != max(c.b.Fuel, 0) {
				t.Errorf("%s with %v took %d steps", c.s, c.b, m.Steps)
			}
		}
	}
}

// A run with less fuel prints a prefix, in at most so many steps as it may take.
func TestPrefixes(t *testing.T) {
	s := `function* g() { try { yield* [1, 2]; } finally { print("f"); } } for (const x of g()) { print(x); if (x === 2) break; } let [a, ...b] = "abc"; print(a, b.length); class A { m() { return [...b, 1].length; } } print(new A().m());`
	m, v, end := run(t, s, wide, api.Script{})
	want := outcome(m, v, end)
	for n := range m.Steps {
		m, v, end := run(t, s, api.Bounds{Fuel: n, Depth: 200, Cells: 9999}, api.Script{})
		got := outcome(m, v, end)
		if !strings.HasSuffix(got, fuel) || !strings.HasPrefix(want, strings.TrimSuffix(got, fuel)) || m.Steps != n {
			t.Fatalf("with %d steps: %s", n, got)
		}
	}
	if m, v, end := run(t, s, api.Bounds{Fuel: m.Steps, Depth: 200, Cells: 9999}, api.Script{}); outcome(m, v, end) != want {
		t.Errorf("with just enough steps: %s", outcome(m, v, end))
	}
}

func TestSteps(t *testing.T) {
	for s, most := range map[string]int{
		"":                                     1000,
		strings.Repeat("print(1);", 500):       100 * 2000,
		"let a = []; a.length = 9000; [...a];": 1000 + 20*9000 + 1000, "let a = []; a.length = 9000; let [...b] = a;": 1000 + 20*9000 + 1000, "let a = []; a.length = 900; list(a); print(...a);": 1000 + 20*2700 + 1000,
		"for (let i = 0; i < 1000; i++) { ({a: i, b() {}}).a; }": 1000 + 100*9000,
	} {
		if m, v, end := run(t, s, wide, api.Script{}); end != vm.Fine || m.Steps > most {
			t.Errorf("%.40s took %d steps: %s", s, m.Steps, outcome(m, v, end))
		}
	}
}

// Each loop's round and each call is a safepoint.
func TestSafepoints(t *testing.T) {
	for _, c := range []struct {
		s     string
		least int
	}{
		{"", 0}, {"print(1);", 0}, {"(() => 1)();", 1}, {"for (let i = 0; i < 5; i++) ;", 5}, {"let i = 5; while (i--) ;", 5}, {"let i = 5; do ; while (--i);", 5}, {"for (const x of [1, 2, 3]) ;", 3},
		{"function* g() { yield 1; yield 2; } let i = g(); i.next(); i.next(); i.next();", 4}, {"new (class {})();", 1}, {"class A {} class B extends A {} new B();", 2},
	} {
		m, v, end := run(t, c.s, wide, api.Script{})
		if end != vm.Fine || m.Points < c.least || m.Points > c.least+1 || m.Swept != 0 {
			t.Errorf("%s: %d safepoints, %d collections: %s", c.s, m.Points, m.Swept, outcome(m, v, end))
		}
		all, _, _ := run(t, c.s, wide, api.Script{All: true})
		if all.Points != m.Points || all.Swept != m.Points {
			t.Errorf("%s: %d safepoints, %d collections", c.s, all.Points, all.Swept)
		}
		if first, _, _ := run(t, c.s, wide, api.Script{Gc: []bool{true}}); first.Swept != min(m.Points, 1) {
			t.Errorf("%s: %d collections", c.s, first.Swept)
		}
		if rest, _, _ := run(t, c.s, wide, api.Script{Gc: []bool{false}, All: true}); rest.Swept != max(m.Points-1, 0) {
			t.Errorf("%s: %d collections", c.s, rest.Swept)
		}
	}
}

// P5: what a collection leaves is what is reachable.
func TestCollectionsFreeWhatIsLeft(t *testing.T) {
	base := world(wide, api.Script{}).Count()
	for _, s := range []string{
		"for (let i = 0; i < 100; i++) { junk(); [{}, () => i]; }", "function f(a) { return [a]; } for (let i = 0; i < 100; i++) f({});", "function* g() { yield {}; } for (let i = 0; i < 50; i++) for (const x of g()) break;", "for (let i = 0; i < 50; i++) try { throw {}; } catch (e) { e; } finally { ({}); }",
	} {
		m, v, end := run(t, s, api.Bounds{Fuel: api.MaxFuel, Depth: 99, Cells: base + 60}, api.Script{All: true})
		if end != vm.Fine {
			t.Errorf("%s: %s", s, outcome(m, v, end))
		}
		m.Point()
		if m.Count() != base {
			t.Errorf("%s leaves %d cells of %d", s, m.Count(), base)
		}
	}
}

func TestTrace(t *testing.T) {
	m, v, end := run(t, "for (let i = 0; i < 20000; i++) print(i); junk(); print(0);", wide, api.Script{})
	if end != vm.Over || m.End != api.EndFuel || len(m.Trace) != api.MaxTrace || m.Trace[19999] != "19999" || m.Steps != api.MaxFuel {
		t.Errorf("%d lines: %v, %d", len(m.Trace), v, m.End)
	}
	if m.Say("x") || m.Spend(0) || m.Point() {
		t.Error("the run isn't over")
	}
}

func TestSpend(t *testing.T) {
	m := vm.New(host{}, api.Bounds{Fuel: 10}, api.Script{})
	for _, n := range []int{3, 0, -7, 7} {
		if !m.Spend(n) {
			t.Errorf("Spend(%d) after %d steps", n, m.Steps)
		}
	}
	if m.Steps != 10 || m.Spend(1) || m.End != api.EndFuel || m.Steps != 10 {
		t.Errorf("%d steps, end %d", m.Steps, m.End)
	}
	m = vm.New(host{}, wide, api.Script{})
	if m.Spend(math.MaxInt) || m.Steps != api.MaxFuel {
		t.Errorf("%d steps", m.Steps)
	}
	if v, end := m.Hard(); v != (api.Val{}) || end != vm.Over || m.End != api.EndFuel {
		t.Errorf("Hard = %v, %d, end %d", v, end, m.End)
	}
	m = vm.New(host{}, wide, api.Script{})
	n := &heap.Obj{}
	for range 2*api.MaxCells + 1 {
		m.Heap.Arena.Make(n)
	}
	if m.Spend(1) || m.End != api.EndHeap {
		t.Errorf("%d cells, end %d", m.Count(), m.End)
	}
}

func TestNew(t *testing.T) {
	script := api.Script{Gc: []bool{true}}
	m := vm.New(nil, api.Bounds{Fuel: math.MaxInt, Depth: math.MaxInt, Cells: math.MaxInt}, script)
	script.Gc[0] = false
	if m.Bounds != wide || m.Count() != 0 || !m.Point() || m.Swept != 1 {
		t.Errorf("bounds %v, %d cells, %d collections", m.Bounds, m.Count(), m.Swept)
	}
	m = vm.New(nil, api.Bounds{Fuel: math.MinInt, Depth: -1, Cells: -1}, api.Script{})
	if m.Bounds != (api.Bounds{}) {
		t.Errorf("bounds %v", m.Bounds)
	}
}

func TestHoldAndKeep(t *testing.T) {
	m := vm.New(host{}, wide, api.Script{All: true})
	a, b, c := m.Object(), m.Object(), m.Object()
	m.Hold(a, whole(1), b)
	if m.Depth() != 3 {
		t.Errorf("%d roots", m.Depth())
	}
	m.Keep(value.Ref(c))
	m.Keep(value.Ref(c))
	if !slices.Equal(m.Kept, []int{value.Ref(c)}) {
		t.Errorf("kept %v", m.Kept)
	}
	m.Point()
	if m.Count() != 3 {
		t.Errorf("%d cells", m.Count())
	}
	m.Release(1)
	m.Kept = nil
	m.Point()
	if m.Count() != 1 || m.Of(a) == nil {
		t.Errorf("%d cells", m.Count())
	}
	m.Keep(value.Ref(a))
	m.Release(math.MaxInt)
	m.Jobs = []vm.Job{{Fn: m.Object(), Args: []api.Val{m.Object(), whole(3)}}}
	m.Ready = []int{value.Ref(m.Object())}
	m.Point()
	if !slices.Equal(m.Kept, []int{value.Ref(a)}) || m.Depth() != 0 || m.Count() != 4 {
		t.Errorf("kept %v, %d roots, %d cells", m.Kept, m.Depth(), m.Count())
	}
}

func TestRegistries(t *testing.T) {
	m := vm.New(host{}, wide, api.Script{All: true})
	target, lost := m.Object(), m.Object()
	registry := func(faint ...int) (int, *heap.Obj) {
		r, o := m.Make(heap.Registry, 0)
		o.Faint = faint
		m.Lists = append(m.Lists, r)
		return r, o
	}
	r1, o1 := registry(value.Ref(target), 0)
	r2, o2 := registry(value.Ref(target), value.Ref(lost), value.Ref(lost), value.Ref(target))
	registry(value.Ref(lost), 0)
	m.Hold(target, value.Object(r1), value.Object(r2))
	m.Point()
	if !slices.Equal(m.Ready, []int{r2}) || !slices.Equal(m.Lists, []int{r1, r2}) || !slices.Equal(o2.Faint, []int{value.Ref(target), 0, -1, value.Ref(target)}) {
		t.Errorf("ready %v of %v, %v", m.Ready, m.Lists, o2.Faint)
	}
	m.Release(3)
	m.Hold(value.Object(r1))
	m.Point()
	if !slices.Equal(m.Ready, []int{r2, r1}) || o1.Faint[0] != -1 {
		t.Errorf("ready %v, %v", m.Ready, o1.Faint)
	}
	m.Ready = nil
	m.Point()
	if !slices.Equal(m.Ready, []int{r1}) || !slices.Equal(m.Lists, []int{r1}) {
		t.Errorf("ready %v of %v", m.Ready, m.Lists)
	}
}

func TestErrorsAndConversions(t *testing.T) {
	m := world(wide, api.Script{})
	v, end := m.Fail(vm.RangeProto, "why")
	if o := m.Of(v); end != vm.Threw || o.Class != heap.Error || o.Proto != m.Protos[vm.RangeProto] {
		t.Errorf("Fail = %v, %d", v, end)
	}
	if msg, flags, ok := m.Of(v).Own(text.Val("message")); msg != text.Val("why") || flags != heap.Hidden || !ok {
		t.Errorf("the message is %v, %d", msg, flags)
	}
	v, end = m.Type("")
	if _, _, ok := m.Of(v).Own(text.Val("message")); ok || end != vm.Threw || m.Of(v).Proto != m.Protos[vm.TypeProto] {
		t.Errorf("Type = %v, %d", v, end)
	}
	if v, end := m.Convert(whole(3), value.OK); v != whole(3) || end != vm.Fine {
		t.Errorf("Convert = %v, %d", v, end)
	}
	if v, end := m.Convert(whole(3), value.Throw); end != vm.Threw || m.Class(v) != heap.Error {
		t.Errorf("Convert = %v, %d", v, end)
	}
	if v, end := m.Convert(whole(3), value.Hard); v != (api.Val{}) || end != vm.Over || m.End != api.EndUnsupported {
		t.Errorf("Convert = %v, %d", v, end)
	}
}

func TestObjects(t *testing.T) {
	m := world(wide, api.Script{})
	l := []api.Val{whole(1), {K: api.Empty}}
	arr := m.Array(l)
	l[0] = whole(9)
	if o := m.Of(arr); o.Class != heap.Array || o.Proto != m.Protos[vm.ArrayProto] || !slices.Equal(o.Elems, []api.Val{whole(1), {K: api.Empty}}) {
		t.Errorf("Array = %v", o)
	}
	if o := m.Of(m.Object()); o.Class != heap.Plain || o.Proto != m.Protos[vm.ObjectProto] || len(o.Keys()) != 0 {
		t.Errorf("Object = %v", o)
	}
	result := m.Of(m.Result(whole(5), true))
	for k, want := range map[string]api.Val{"value": whole(5), "done": value.Truth(true)} {
		if v, flags, ok := result.Own(text.Val(k)); v != want || flags != heap.All || !ok {
			t.Errorf("the %s of a Result is %v, %d", k, v, flags)
		}
	}
	f := m.Native(idPrint, "abc", 3, true)
	if n, flags, _ := m.Of(f).Own(text.Val("length")); n != whole(3) || flags != heap.Configurable {
		t.Errorf("the length is %v, %d", n, flags)
	}
	if n, flags, _ := m.Of(f).Own(text.Val("name")); n != text.Val("abc") || flags != heap.Configurable {
		t.Errorf("the name is %v, %d", n, flags)
	}
	if !m.Callable(f) || !m.Maker(f) || m.Maker(m.Native(1, "", 0, false)) || m.Callable(arr) || m.Maker(whole(1)) || m.Class(f) != heap.Function || m.Class(arr) != heap.Array || m.Class(whole(1)) != -1 || m.Class(m.Iterator) != -1 {
		t.Error("Callable, Maker, Class")
	}
	if v, end := m.GetKey(arr, text.Val("length")); v != whole(2) || end != vm.Fine {
		t.Errorf("GetKey = %v, %d", v, end)
	}
	if m.Array(make([]api.Val, api.MaxArray+1)) != (api.Val{}) || m.End != api.EndUnsupported {
		t.Error("an array that is too long")
	}
}

func TestWorlds(t *testing.T) {
	m := world(wide, api.Script{})
	f := m.Constructor(vm.MapProto, "Map", idPrint, 2)
	m.Static(f, "of", idList, 1)
	m.Methods(vm.MapProto, idList, "a0 bc3")
	proto := m.Obj(m.Protos[vm.MapProto])
	if v, flags, _ := m.Of(f).Own(text.Val("prototype")); v != value.Object(m.Protos[vm.MapProto]) || flags != 0 {
		t.Errorf("the prototype is %v, %d", v, flags)
	}
	if v, flags, _ := proto.Own(text.Val("constructor")); v != f || flags != heap.Hidden {
		t.Errorf("the constructor is %v, %d", v, flags)
	}
	for k, id := range map[string]int{"a": idList, "bc": idList + 1} {
		v, flags, ok := proto.Own(text.Val(k))
		if n, _, _ := m.Of(v).Own(text.Val("name")); !ok || m.Maker(v) || flags != heap.Hidden || m.Of(v).Kind != id || n != text.Val(k) {
			t.Errorf("%s is %v, %d", k, v, flags)
		}
	}
	if n, _ := m.Member(mustOwn(proto, "bc"), "length"); n != whole(3) {
		t.Errorf("the length is %v", n)
	}
	if of := mustOwn(m.Of(f), "of"); m.Of(of).Kind != idList || m.Maker(of) {
		t.Errorf("the static function is %d", m.Of(of).Kind)
	}
	if m.From(f, vm.SetProto) != m.Protos[vm.MapProto] || m.From(m.Object(), vm.SetProto) != m.Protos[vm.SetProto] || m.From(api.Val{}, vm.SetProto) != m.Protos[vm.SetProto] {
		t.Error("From")
	}
}

func mustOwn(o *heap.Obj, k string) api.Val {
	v, _, _ := o.Own(text.Val(k))
	return v
}

func TestValues(t *testing.T) {
	const it = `function it(n) { let k = 0; return {[iterator]() { return this; }, next() { k++; if (k === n) throw "next"; return {done: k > 3, value: k}; }, return() { print("return"); if (n < 0) throw "return"; return n ? {} : 1; }}; } `
	for s, want := range map[string]string{
		`each(it(9), print); print("end");`:                                       "1; 2; 3; end",
		`each(it(9), (x) => x < 2); print("end");`:                                "return; end",
		`each(it(9), (x) => { throw x; });`:                                       "return ! value",
		`try { each(it(2), (x) => print(x)); } catch (e) { print("thrown", e); }`: "1; thrown next",
		`try { each(it(-1), (x) => false); } catch (e) { print("thrown", e); }`:   "return; thrown return",
		`try { each(it(-1), (x) => { throw "body"; }); } catch (e) { print(e); }`: "return; body",
		`each(it(0), (x) => false);`:                                              "return ! TypeError",
		`each(it(0), (x) => { throw 1; });`:                                       "return ! value",
		`each(it(9), (x) => x / 2);`:                                              hard,
		`each(1, print);`:                                                         " ! TypeError",
		`print(list(it(9)).length, list("ab")[1], list([]).length); list(it(3));`: "3 b 0 ! value",
		`list(null);`: " ! TypeError",
		`function* g() { try { yield {a: 1}; yield {a: 2}; } finally { print("f"); } } let l = list(g()); junk(); (() => 1)(); print(l[0].a, l[1].a); each(g(), (x) => { (() => 1)(); print(x.a); return false; });`: "f; 1 2; 1; f",
	} {
		check(t, it+s, want)
	}
}

func TestGoOn(t *testing.T) {
	for _, c := range [][2]string{
		{`function* g() { i.next(); yield 1; } let i = g(); i.next();`, " ! TypeError"}, {`function* g() { try { i.return(1); } catch (e) { print(e instanceof TypeError); } yield 1; } let i = g(); print(i.next().value);`, "true; 1"}, {`(function* () {})().next.x; let n = (function* () {})().next; n();`, " ! TypeError"},
		{`function* g() {} print(g.prototype.constructor === undefined, g() instanceof g, typeof g.prototype); g.prototype = 1; print(g() instanceof (function () {}));`, "true true object; false"},
		{`function* g() { throw 1; } let i = g(); try { i.next(); } catch (e) { print(e, i.next().done); }`, "1 true"}, {`function* g() { yield* g2(); } function* g2() { yield 1; print("x"); } let i = g(); i.next(); i.return(2); print(i.next().done);`, "true"},
		{`function* g() { for (;;) { try { yield 1; } finally { continue; } } } let i = g(); i.next(); print(i.return(5).value, i.return(6).done);`, "1 false"}, {`function* g() { const x = yield; print(x); return x; } let i = g(); i.next(1); let r = i.next(2); print(r.value, r.done, i.next().value);`, "2; 2 true undefined"},
		{`function* g() { for (const x of [1, 2]) { yield x; } } let i = g(); i.next(); i.return(); print(i.next().done);`, "true"}, {`let o = {*[iterator]() { yield* [1, 2]; return 3; }}; print(...o);`, "1 2"}, {`function* g() { return yield* "ab"; } print(...g());`, "a b"},
		{`function* g() { yield 1; } let i = g(); for (const x of i) for (const y of i) print("no"); print(i.next().done);`, "true"},
	} {
		check(t, c[0], c[1])
	}
	m := world(wide, api.Script{})
	if v, done, end := m.GoOn(whole(1), vm.GoNext, whole(2)); end != vm.Threw || done || m.Class(v) != heap.Error {
		t.Errorf("GoOn = %v, %v, %d", v, done, end)
	}
}

func TestGoOnOfTheMachine(t *testing.T) {
	m, _, _ := run(t, `print.f = function* () { try { yield 1; yield 2; } catch (e) { yield e; } return 3; };`, wide, api.Script{All: true})
	print := m.Env(m.World).Vals[3]
	f, _ := m.Member(print, "f")
	type row struct {
		how, x, v int
		done      bool
		end       int
	}
	undef := -99
	for _, rows := range [][]row{
		{{vm.GoNext, 7, 1, false, vm.Fine}, {vm.GoNext, 7, 2, false, vm.Fine}, {vm.GoNext, 7, 3, true, vm.Fine}, {vm.GoNext, 7, undef, true, vm.Fine}, {vm.GoReturn, 7, 7, true, vm.Fine}, {vm.GoThrow, 7, 7, false, vm.Threw}},
		{{vm.GoNext, 7, 1, false, vm.Fine}, {vm.GoThrow, 8, 8, false, vm.Fine}, {vm.GoThrow, 9, 9, false, vm.Threw}, {vm.GoNext, 7, undef, true, vm.Fine}}, {{vm.GoReturn, 7, 7, true, vm.Fine}, {vm.GoNext, 7, undef, true, vm.Fine}}, {{vm.GoThrow, 7, 7, false, vm.Threw}, {vm.GoNext, 7, undef, true, vm.Fine}}, {{vm.GoNext, 7, 1, false, vm.Fine}, {vm.GoReturn, 5, 5, true, vm.Fine}, {vm.GoThrow, 7, 7, false, vm.Threw}},
	} {
		g, _ := m.Call(f, api.Val{}, nil)
		m.Hold(g)
		for i, r := range rows {
			want := whole(r.v)
			if r.v == undef {
				want = api.Val{}
			}
			if v, done, end := m.GoOn(g, r.how, whole(r.x)); v != want || done != r.done || end != r.end {
				t.Errorf("%v: the result %d is %v, %v, %d", rows, i, v, done, end)
			}
		}
		m.Release(1)
	}
	m.Hard()
	g, _ := m.Call(f, api.Val{}, nil)
	if v, done, end := m.GoOn(g, vm.GoNext, api.Val{}); v != (api.Val{}) && end != vm.Threw || done || end == vm.Fine {
		t.Errorf("after the end: %v, %v, %d", v, done, end)
	}
}

// A class whose code names no constructor has one that does nothing, or passes on its arguments.
func TestClassWithoutCode(t *testing.T) {
	m := world(wide, api.Script{})
	class := func(before []code.Ins, b int) *code.Func {
		ins := append(before, code.Ins{Op: code.Class, A: -1, B: b}, code.Ins{Op: code.Pop}, code.Ins{Op: code.Return})
		return &code.Func{Ins: ins, Consts: []api.Val{whole(5)}}
	}
	plain, end := m.Run(class(nil, 0))
	if v, how := m.Construct(plain, nil, plain); end != vm.Fine || how != vm.Fine || m.Class(v) != heap.Plain {
		t.Errorf("Construct = %v, %d", v, how)
	}
	if v, how := m.Call(plain, api.Val{}, nil); how != vm.Threw {
		t.Errorf("Call = %v, %d", v, how)
	}
	heir, _ := m.Run(class([]code.Ins{{Op: code.Get, A: 1, B: 5}}, 1))
	if v, how := m.Construct(heir, []api.Val{whole(1)}, heir); how != vm.Threw || m.Of(v).Proto != m.Protos[vm.TypeProto] {
		t.Errorf("Construct = %v, %d", v, how)
	}
	none, _ := m.Run(class([]code.Ins{{Op: code.Null}}, 1))
	if o := m.Of(mustOwn(m.Of(none), "prototype")); o.Proto != 0 || m.Of(none).Proto != m.Protos[vm.FunctionProto] {
		t.Errorf("extends null: %d", o.Proto)
	}
}

func TestCallsOfTheMachine(t *testing.T) {
	m, _, _ := run(t, "", wide, api.Script{All: true})
	print := m.Env(m.World).Vals[3]
	if v, end := m.Call(print, api.Val{}, []api.Val{whole(1), text.Val("a")}); v != (api.Val{}) || end != vm.Fine || !slices.Equal(m.Trace, []string{"1 a"}) {
		t.Errorf("Call = %v, %d, %v", v, end, m.Trace)
	}
	for _, v := range []api.Val{{}, whole(1), m.Object(), m.Iterator} {
		if x, end := m.Call(v, api.Val{}, nil); end != vm.Threw || m.Class(x) != heap.Error {
			t.Errorf("Call(%v) = %v, %d", v, x, end)
		}
		if x, end := m.Construct(v, nil, v); end != vm.Threw || m.Class(x) != heap.Error {
			t.Errorf("Construct(%v) = %v, %d", v, x, end)
		}
	}
	if (vm.Call{Args: []api.Val{whole(1)}}).Arg(0) != whole(1) || (vm.Call{}).Arg(0) != (api.Val{}) || (vm.Call{}).Arg(-1) != (api.Val{}) {
		t.Error("Arg")
	}
	f := &code.Func{Name: "f", Params: 2, Ins: []code.Ins{{Op: code.Arg, A: 1}, {Op: code.Return}}}
	fn := m.Closure(f, m.World)
	args := []api.Val{whole(1), whole(2)}
	if v, end := m.Call(fn, api.Val{}, args); v != whole(2) || end != vm.Fine || m.Of(fn).Env != m.World {
		t.Errorf("Call = %v, %d", v, end)
	}
	if v, end := m.Call(fn, api.Val{}, make([]api.Val, api.MaxArgs)); v != (api.Val{}) || end != vm.Fine {
		t.Errorf("Call = %v, %d", v, end)
	}
	if _, end := m.Call(fn, api.Val{}, make([]api.Val, api.MaxArgs+1)); end != vm.Over || m.End != api.EndUnsupported {
		t.Errorf("too many arguments: %d", end)
	}
	if v, end := m.Call(fn, api.Val{}, nil); v != (api.Val{}) || end != vm.Over {
		t.Errorf("after the end: %v, %d", v, end)
	}
}

func TestConstructFor(t *testing.T) {
	check(t, `class A { constructor(...a) { print(a.length); } } print(construct(A, 1, 2) instanceof A); function F() { this.a = 1; } print(construct(F).a); construct(() => 1);`, "2; true; 1 ! TypeError")
	check(t, `class E extends TypeError {} try { new E(); } catch (e) { print(e instanceof TypeError, e instanceof E); }`, "true false")
	check(t, `F.prototype = null; function F() {} print(({}) instanceof (function () {}), construct(F) instanceof F);`, " ! TypeError")
}

// P0: code that no compiler makes is executed to some end, too.
func TestStrangeCode(t *testing.T) {
	for op := code.Const; op <= code.Name; op++ {
		for _, a := range []int{-1, 0, 1, 2, 7} {
			for _, b := range []int{-1, 0, 3} {
				for _, before := range [][]code.Ins{nil, {{Op: code.Object}, {Op: code.Array}, {Op: code.Closure}}, {{Op: code.Array}, {Op: code.Open}, {Op: code.Loop, A: 2, B: -1}}, {{Op: code.Closure}, {Op: code.Const, A: 1}, {Op: code.Array}}, {{Op: code.Array}, {Op: code.Array}, {Op: code.Finish, A: -1}}} {
					inner := &code.Func{Generator: a == 1, Ins: []code.Ins{{Op: op, A: min(a, 1), B: b}, {Op: code.Return}}, Consts: []api.Val{whole(1), text.Val("x")}, Funcs: []*code.Func{{Ins: []code.Ins{{Op: code.Return}}}}}
					f := &code.Func{Ins: append(slices.Clone(before), code.Ins{Op: op, A: a, B: b}, code.Ins{Op: code.Call, A: 0}, code.Ins{Op: code.Return}), Consts: inner.Consts, Funcs: []*code.Func{inner}}
					if !f.Right() {
						continue
					}
					m := world(api.Bounds{Fuel: 5000, Depth: 20, Cells: 5000}, api.Script{All: true})
					m.Run(f)
					m.Point()
					vm.New(nil, api.Bounds{Fuel: 5000, Depth: 20, Cells: 5000}, api.Script{}).Run(f)
				}
			}
		}
	}
}

func TestNil(t *testing.T) {
	var m *vm.Machine
	var f *vm.Frame
	var w *vm.Walk
	m.Each(func(int) bool { t.Error("nil has a cell"); return true })
	f.Each(func(int) bool { t.Error("nil has a cell"); return true })
	w.Fail(whole(1), vm.Threw)
	m.Hold(whole(1))
	m.Release(1)
	m.Keep(1)
	m.Method(0, "a", 1, 1)
	m.Methods(0, 1, "a1")
	m.Static(whole(1), "a", 1, 1)
	m.Own(nil, "a", whole(1), 0)
	if m.Spend(1) || m.Point() || m.Say("a") || m.Callable(whole(1)) || m.Maker(value.Object(1)) || m.Class(value.Object(1)) != -1 || m.From(whole(1), 0) != 0 {
		t.Error("nil does something")
	}
	none := api.Val{}
	if m.Array(nil) != none || m.Object() != none || m.Result(none, true) != none || m.Closure(nil, 0) != none || m.Native(1, "a", 1, true) != none || m.Constructor(0, "a", 1, 1) != none {
		t.Error("nil makes something")
	}
	m.Hard()
	m.Fail(0, "a")
	m.Type("a")
	m.Convert(none, value.Throw)
	m.GetKey(none, none)
	m.Get(none, none)
	m.Member(none, "a")
	m.Put(none, none, none)
	m.Call(none, none, nil)
	m.Construct(none, nil, none)
	m.CloseIter(none, true)
	m.List(none)
	m.GoOn(none, 0, none)
	m.Run(nil)
	for range m.Values(none, nil) {
		t.Error("nil has a value")
	}
}
