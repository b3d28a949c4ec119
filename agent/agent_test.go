package agent

import (
	"math/rand"
	"slices"
	"strings"
	"testing"

	"ossuary/api"
	"ossuary/heap"
	"ossuary/vm"
)

// The bounds are such that programs without an end end soon, also if they are collected at every safepoint.
var wide = api.Bounds{Fuel: 200000, Depth: api.MaxDepth, Cells: 3000}

// told writes an outcome: the lines, and behind them the end if it isn't Normal.
func told(out api.Outcome) string {
	s := strings.Join(out.Trace, "; ")
	if out.End == api.EndThrow {
		return s + " ! " + out.Thrown
	}
	if out.End != api.EndNormal {
		return s + " ! end " + string(rune('0'+out.End))
	}
	return s
}

// check holds the outcome of a program against what is expected, collected in several ways.
func check(t *testing.T, s, want string) {
	t.Helper()
	steps := -1
	for _, script := range []api.Script{{}, {All: true}, {Gc: []bool{true, false, false, true, true, false, true}}} {
		m, out := Machine(s, wide, script)
		if got := told(out); got != want {
			t.Errorf("%s\nended as\n%s\nnot as\n%s", s, got, want)
			return
		}
		if steps >= 0 && out.Steps != steps {
			t.Errorf("%s\ntook %d steps, and %d if it is collected", s, steps, out.Steps)
		}
		steps = out.Steps
		checkMachine(t, s, m, out)
	}
}

// checkMachine checks what holds for a machine after each run.
func checkMachine(t *testing.T, s string, m *vm.Machine, out api.Outcome) {
	t.Helper()
	if m.Steps != out.Steps || m.Points != out.Points || m.Swept != out.Swept || m.End != out.End || !slices.Equal(m.Trace, out.Trace) {
		t.Errorf("%s\nthe machine says something else than the outcome: %v", s, out)
	}
	if (out.End == api.EndNormal || out.End == api.EndThrow) && m.Depth() != 0 {
		t.Errorf("%s\nleft %d roots", s, m.Depth())
	}
	for r := 1; r < m.Count(); r++ {
		_, isMark := m.Heap.Get(r).(*heap.Mark)
		if m.Heap.Get(r) != nil && m.Obj(r) == nil && m.Env(r) == nil && !isMark {
			t.Errorf("%s\nthe cell %d is a %T", s, r, m.Heap.Get(r))
		}
	}
}

func TestExamples(t *testing.T) {
	for _, c := range [][2]string{
		{`print(1);`, "1"}, {`print([...new Set([1, 2, 1])]);`, "[1, 2]"}, {`print(1); print(1 / 2);`, "1 ! end 6"}, {`for (;;) { }`, " ! end 3"}, {`Promise.resolve(1).then(print); print(2);`, "2; 1"}, {`throw new TypeError("x");`, " ! TypeError: x"},
		{`function* g() { try { yield 1; } finally { print("finally"); } } for (const x of g()) break;`, "finally"}, {`let o = {}; print(new WeakRef(o).deref() === o); let r = new WeakRef({}); for (const i of [1, 2]) r.deref().x = i; print(r.deref().x);`, "true; 2"}, {`function f() { f(); } f();`, " ! end 4"}, {`let a = {}; for (;;) a = {a};`, " ! end 5"}, {``, ""},
	} {
		check(t, c[0], c[1])
	}
}

func TestSyntax(t *testing.T) {
	for s, f := range map[string]api.Fault{
		"let a; let a;": {Kind: api.ErrEarly, At: 11}, "print(1": {Kind: api.ErrParse, At: 7}, "print(@);": {Kind: api.ErrLex, At: 6}, strings.Repeat(" ", api.MaxSource+1): {Kind: api.ErrSize, At: api.MaxSource}, strings.Repeat("{", 61): {Kind: api.ErrDepth, At: 60},
	} {
		m, out := Machine(s, wide, api.Script{})
		if m != nil || out.End != api.EndSyntax || out.Fault != f || len(out.Trace) != 0 || out.Thrown != "" || out.Steps != 0 || out.Points != 0 || out.Swept != 0 {
			t.Errorf("%.20q: %v", s, out)
		}
	}
}

func TestWorld(t *testing.T) {
	want := "Array undefined NaN Infinity print Object String Symbol Error TypeError ReferenceError RangeError Number Boolean Map Set WeakMap WeakSet WeakRef FinalizationRegistry Promise queueMicrotask"
	if got := strings.Join(Names(), " "); got != want {
		t.Errorf("Names = %s", got)
	}
	m := World(wide, api.Script{})
	if m.Count() != Base() || m.Steps != 0 || m.Points != 0 || m.Depth() != 0 || len(m.Env(m.World).Vals) != len(Names()) {
		t.Errorf("%d cells, %d steps", m.Count(), m.Steps)
	}
	if freed := m.Collect(m.Each); len(freed) != 0 {
		t.Errorf("%d cells of the world are freed", len(freed))
	}
	for i, r := range m.Protos {
		if m.Obj(r) == nil || i > 0 && !m.Chain(r, 0) {
			t.Errorf("prototype %d is %d", i, r)
		}
	}
	check(t, `print(typeof undefined, typeof NaN, typeof Infinity); for (const f of [print, Object, String, Symbol, Error, TypeError, ReferenceError, RangeError, Number, Boolean, Array, Map, Set, WeakMap, WeakSet, WeakRef, FinalizationRegistry, Promise, queueMicrotask]) if (typeof f !== "function" || Object.getPrototypeOf(f) !== Object.getPrototypeOf(print) && Object.getPrototypeOf(f) !== Error) print(f);`, "undefined number number")
	check(t, `let F = Object.getPrototypeOf(print); print(typeof F, F(1), F.name === "", F.length, Object.getPrototypeOf(F) === Object.prototype, Array.isArray(Array.prototype), Object.getPrototypeOf(Object.prototype), Object.getPrototypeOf((class extends null {}).prototype), globalThis2);`, " ! ReferenceError")
	check(t, `let F = Object.getPrototypeOf(print); print(typeof F, F(1), F.name === "", F.length, Object.getPrototypeOf(F) === Object.prototype, Array.isArray(Array.prototype), Object.getPrototypeOf(Object.prototype), Object.getPrototypeOf((class extends null {}).prototype)); new F();`, "function undefined true 0 true true null null ! TypeError")
	check(t, `print(new Array("a"), new Object(), new Error("e"), new TypeError(), new Map(), new Set(), new WeakMap(), new WeakSet(), new WeakRef({}), new FinalizationRegistry(print), new Promise(print), Symbol("s"), String(1), Number(), Boolean());`, "function  function ; [a] [Object] Error: e TypeError [Map] [Set] [WeakMap] [WeakSet] [WeakRef] [FinalizationRegistry] [Promise] Symbol(s) 1 0 false")
	check(t, `undefined = 1;`, " ! TypeError")
	check(t, `print = 1; Object = 2; let Array = 3; { let print = 4; } Promise;`, "")
}

func TestTurns(t *testing.T) {
	for _, c := range [][2]string{
		{`queueMicrotask(() => print(2)); Promise.resolve(3).then(print); print(1);`, "1; 2; 3"}, {`queueMicrotask(() => { throw 1; }); queueMicrotask(print); print(0);`, "0 ! 1"}, {`queueMicrotask(() => 1 / 2); print(0);`, "0 ! end 6"}, {`let n = 0; function f() { if (n++ < 50) queueMicrotask(f); else print("end", n); } f();`, "end 51"}, {`function f() { queueMicrotask(f); } f();`, " ! end 3"}, {`throw [1, new Error("a\nb"), "c\n"];`, " ! [1, Error: a\\u000Ab, c\\u000A]"}, {`throw undefined;`, " ! undefined"}, {`Promise.reject(1); print("fine");`, "fine"}, {`nope;`, " ! ReferenceError"},
	} {
		check(t, c[0], c[1])
	}
	// Each turn is a step and a safepoint, also the last one.
	for s, turns := range map[string]int{"": 1, "queueMicrotask(print);": 2, "queueMicrotask(print); queueMicrotask(print);": 3} {
		out := Run(s, wide, api.Script{All: true})
		if out.Points != turns || out.Swept != turns || out.End != api.EndNormal {
			t.Errorf("%q has %d safepoints, %d collections", s, out.Points, out.Swept)
		}
		if less := Run(s, api.Bounds{Fuel: out.Steps - 1, Depth: 9, Cells: 9999}, api.Script{}); less.End != api.EndFuel || less.Steps != out.Steps-1 {
			t.Errorf("%q with a step less: %v", s, less)
		}
		if exact := Run(s, api.Bounds{Fuel: out.Steps, Depth: 9, Cells: 9999}, api.Script{}); exact.End != api.EndNormal {
			t.Errorf("%q with just enough steps: %v", s, exact)
		}
	}
}

// A registry that a closure keeps, and jobs that go on meanwhile.
const cleaned = `const f = new FinalizationRegistry((h) => print("clean", h)); f.register({}, 1); f.register({}, 2); let n = 0; function job() { print("job", n++); if (n < 3) queueMicrotask(job); else f.n = n; } queueMicrotask(job);`

func TestScriptOfCleanups(t *testing.T) {
	for _, c := range []struct {
		script api.Script
		want   string
	}{
		{api.Script{}, "job 0; job 1; job 2"}, {api.Script{All: true}, "clean 1; clean 2; job 0; job 1; job 2"}, {api.Script{All: true, Run: []bool{false}}, "job 0; clean 1; clean 2; job 1; job 2"}, {api.Script{All: true, Run: []bool{false, false, true}}, "job 0; job 1; clean 1; clean 2; job 2"},
		{api.Script{Gc: []bool{true}, Run: []bool{false, false, false, false, false, false}}, "job 0; job 1; job 2; clean 1; clean 2"}, {api.Script{Gc: []bool{false, true}}, "job 0; clean 1; clean 2; job 1; job 2"}, {api.Script{Gc: []bool{true}, Run: []bool{true, false}}, "clean 1; clean 2; job 0; job 1; job 2"},
	} {
		m, out := Machine(cleaned, wide, c.script)
		if got := told(out); got != c.want {
			t.Errorf("%v: %s, not %s", c.script, got, c.want)
		}
		checkMachine(t, cleaned, m, out)
	}
	// Turns without a job ask the script again, until it permits the cleanup.
	s := `print.f = new FinalizationRegistry(print); print.f.register({}, 1);`
	few := Run(s, wide, api.Script{All: true})
	many := Run(s, wide, api.Script{All: true, Run: make([]bool, 40)})
	if told(few) != "1" || told(many) != "1" || many.Points != few.Points+40 || many.Steps != few.Steps+40 {
		t.Errorf("%v, %v", few, many)
	}
	if out := Run(`print.f = new FinalizationRegistry((h) => { throw h; }); print.f.register({}, "x"); print.f.register({}, "y"); queueMicrotask(print);`, wide, api.Script{All: true}); told(out) != " ! x" {
		t.Errorf("%v", out)
	}
	if out := Run(`print.a = new FinalizationRegistry(print); print.b = new FinalizationRegistry(print); print.b.register({}, "b"); print.a.register({}, "a"); queueMicrotask(() => print("job"));`, wide, api.Script{All: true}); told(out) != "a; b; job" {
		t.Errorf("%v", out)
	}
}

// P3: a target that was used in a job stays until it ends; then all references to it become empty together.
func TestJobsAndWeakRefs(t *testing.T) {
	const s = `print.r = new WeakRef({n: 1}); print.q = new WeakRef(print.r.deref()); print.f = new FinalizationRegistry((h) => print(h, print.r.deref(), print.q.deref())); print.f.register(print.r.deref(), "gone"); function look(k) { const a = print.r.deref(), b = print.q.deref(); (() => 1)(); print(k, a === b, a === print.r.deref()); } look("program"); queueMicrotask(() => look("job 1")); queueMicrotask(() => { (() => 1)(); print("job 2", print.r.deref() === print.q.deref()); });`
	for i := range 64 {
		gc := make([]bool, 6)
		for j := range gc {
			gc[j] = i>>j&1 == 1
		}
		out := Run(s, wide, api.Script{Gc: gc, All: i%2 == 0})
		if !strings.HasPrefix(told(out), "program true true; ") || out.End != api.EndNormal {
			t.Errorf("%v: %s", gc, told(out))
		}
		gone := slices.Index(out.Trace, "gone undefined undefined")
		for k, line := range out.Trace {
			want := []string{"job 1 true true", "job 2 true", "gone undefined undefined", "program true true"}
			if !slices.Contains(want, line) || gone >= 0 && slices.Index(out.Trace, line) != k {
				t.Errorf("%v: %s", gc, told(out))
			}
		}
	}
}

// P2: without weak references, collections change nothing but their number.
func TestCollectionsAreInvisible(t *testing.T) {
	rnd := rand.New(rand.NewSource(20))
	for _, s := range corpus() {
		want := Run(s, wide, api.Script{})
		for range 12 {
			gc := make([]bool, rnd.Intn(200))
			for i := range gc {
				gc[i] = rnd.Intn(3) == 0
			}
			b := wide
			if rnd.Intn(2) == 0 {
				b.Cells = Base() + 40 + rnd.Intn(300)
			}
			m, got := Machine(s, b, api.Script{Gc: gc, All: rnd.Intn(2) == 0})
			if got.End == api.EndHeap {
				if !strings.HasPrefix(strings.Join(want.Trace, "; ")+";", strings.Join(got.Trace, "; ")) {
					t.Errorf("%s\n%v isn't a prefix of %v", s, got.Trace, want.Trace)
				}
				continue
			}
			if told(got) != told(want) || got.Steps != want.Steps || got.Points != want.Points {
				t.Errorf("%s\n%v\nis not\n%v", s, got, want)
			}
			checkMachine(t, s, m, got)
		}
	}
}

// P1: what ends for lack of something has printed a prefix, in at most so many steps.
func TestPrefixes(t *testing.T) {
	for _, s := range corpus() {
		want := Run(s, wide, api.Script{})
		for i := range 60 {
			b := api.Bounds{Fuel: want.Steps * i / 60, Depth: 1 + i/4, Cells: Base() + 5*i}
			got := Run(s, b, api.Script{All: i%7 == 0})
			if got.Steps > b.Fuel || len(got.Trace) > len(want.Trace) || !slices.Equal(got.Trace, want.Trace[:len(got.Trace)]) {
				t.Errorf("%s\nwith %v: %v", s, b, got)
			}
			if got.End == api.EndNormal || got.End == api.EndThrow || got.End == api.EndUnsupported {
				if told(got) != told(want) || got.Steps != want.Steps {
					t.Errorf("%s\nwith %v: %v", s, b, got)
				}
			}
			if got.End == api.EndFuel && got.Steps != b.Fuel {
				t.Errorf("%s\nhas %d steps of %d", s, got.Steps, b.Fuel)
			}
		}
	}
}

// P5: with a collection at every safepoint, a run needs no more cells than those that are reachable.
func TestCellsThatAreNeeded(t *testing.T) {
	for s, extra := range map[string]int{
		"for (let i = 0; i < 500; i++) { let o = {i, f() {}}; [o, new Map([[o, o]])]; }": 12, "let w = new WeakMap(); for (let i = 0; i < 300; i++) w.set({}, {});": 8, "for (let i = 0; i < 300; i++) Promise.resolve({}).then; queueMicrotask(() => 1);": 12, "function f(n) { return n ? f(n - 1) : 0; } for (let i = 0; i < 30; i++) f(20);": 40, "let s = new Set(); for (let i = 0; i < 200; i++) { s.add({}); s.clear(); for (const x of s) ; s.values().next(); }": 12,
	} {
		b := api.Bounds{Fuel: wide.Fuel, Depth: api.MaxDepth, Cells: Base() + extra}
		if out := Run(s, b, api.Script{All: true}); out.End != api.EndNormal {
			t.Errorf("%s: %s", s, told(out))
		}
		if out := Run(s, b, api.Script{}); out.End != api.EndNormal {
			t.Errorf("%s: %s", s, told(out))
		}
		m, _ := Machine(s, wide, api.Script{All: true})
		m.Point()
		if m.Count() != Base() {
			t.Errorf("%s leaves %d cells, and there were %d", s, m.Count(), Base())
		}
	}
	if out := Run("let a = []; for (let i = 0; i < 100; i++) a.push({});", api.Bounds{Fuel: 99999, Depth: 9, Cells: Base() + 50}, api.Script{All: true}); out.End != api.EndHeap {
		t.Errorf("%v", out)
	}
	if out := Run("1;", api.Bounds{Fuel: 99, Depth: 9, Cells: Base()}, api.Script{}); out.End != api.EndNormal || out.Swept != 1 {
		t.Errorf("%v", out)
	}
	if out := Run("print(1);", api.Bounds{Fuel: 99, Depth: 9, Cells: Base() - 1}, api.Script{}); told(out) != "1 ! end 5" {
		t.Errorf("%v", out)
	}
}

// P0: each run ends, and nothing panics, whatever the bounds are.
func TestStrangeRuns(t *testing.T) {
	for _, b := range []api.Bounds{{}, {Fuel: -1, Depth: -1, Cells: -1}, {Fuel: 1 << 62, Depth: 1 << 62, Cells: 1 << 62}, {Fuel: 5}} {
		for _, s := range []string{"", "print(1);", "for (;;) ;", "\xff", "let a = 1;"} {
			if s == "for (;;) ;" && b.Fuel > 100 {
				continue
			}
			out := Run(s, b, api.Script{All: true, Gc: []bool{false}, Run: []bool{true}})
			if out.End < 0 || out.End > api.EndUnsupported {
				t.Errorf("%q with %v: %v", s, b, out)
			}
		}
	}
	h := host{}
	if v, end := h.Native(nil, -1, vm.Call{}); v != (api.Val{}) || end != vm.Fine {
		t.Errorf("Native = %v, %d", v, end)
	}
}
