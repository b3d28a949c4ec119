package weak_test

import (
	"slices"
	"strings"
	"testing"

	"ossuary/api"
	"ossuary/heap"
	"ossuary/text"
	"ossuary/value"
	"ossuary/vm"
	"ossuary/weak"
)

func TestBindings(t *testing.T) {
	for _, c := range [][2]string{
		{`let o = {}; print(new WeakRef(o).deref() === o); let r = new WeakRef({}); for (let i = 0; i < 3; i++) print(typeof r.deref());`, "true; object; object; object"},
		{`let k = {}, w = new WeakMap([[k, 1]]); print(w.get(k), w.has(k), w.set(k, 2) === w, w.get(k), w.get({}), w.has({}), w.delete({}), w.delete(k), w.has(k), w.get(k));`, "1 true true 2 undefined false false true false undefined"}, {`let w = new WeakMap(); print(w.get(1), w.has("a"), w.delete(null), w.get(), w.has(Symbol.iterator)); w.set(Symbol.iterator, 1);`, "undefined false false undefined false ! TypeError"},
		{`let k = {}, s = new WeakSet([k, k]); print(s.has(k), s.add(s) === s, s.has(s), s.delete(s), s.has(s), s.has(1), s.delete(1)); s.add(1);`, "true true true true false false false ! TypeError"}, {`print(new WeakMap(null), new WeakSet(undefined), new WeakMap([]), new WeakRef(print), new FinalizationRegistry(print));`, "[WeakMap] [WeakSet] [WeakMap] [WeakRef] [FinalizationRegistry]"},
		{`WeakMap();`, " ! TypeError"}, {`WeakSet();`, " ! TypeError"}, {`WeakRef({});`, " ! TypeError"}, {`FinalizationRegistry(print);`, " ! TypeError"}, {`new WeakRef();`, " ! TypeError"}, {`new WeakRef(null);`, " ! TypeError"}, {`new WeakRef(Symbol());`, " ! TypeError"}, {`new FinalizationRegistry();`, " ! TypeError"}, {`new FinalizationRegistry({});`, " ! TypeError"}, {`new WeakMap([[1, 2]]);`, " ! TypeError"}, {`new WeakMap([1]);`, " ! TypeError"}, {`new WeakSet(["a"]);`, " ! TypeError"}, {`new WeakMap(1);`, " ! TypeError"},
		{`WeakMap.prototype.get.call(new WeakSet(), {});`, " ! TypeError"}, {`WeakMap.prototype.set.call(new Map(), {}, 1);`, " ! TypeError"}, {`WeakSet.prototype.has.call(new WeakMap(), {});`, " ! TypeError"}, {`WeakRef.prototype.deref.call(new WeakMap());`, " ! TypeError"}, {`FinalizationRegistry.prototype.register.call(new WeakMap(), {}, 1);`, " ! TypeError"}, {`let d = new WeakRef({}).deref; d();`, " ! TypeError"},
		{`let f = new FinalizationRegistry(print), o = {}; f.register(o, o);`, " ! TypeError"}, {`new FinalizationRegistry(print).register(1, 2);`, " ! TypeError"}, {`new FinalizationRegistry(print).register({}, 2, 3);`, " ! TypeError"}, {`new FinalizationRegistry(print).register({}, 2, null);`, " ! TypeError"}, {`new FinalizationRegistry(print).unregister();`, " ! TypeError"}, {`new FinalizationRegistry(print).unregister("a");`, " ! TypeError"},
		{`class M extends WeakMap { set(k, v) { print("set"); return super.set(k, v * 2); } } let k = {}; print(new M([[k, 2]]).get(k)); class R extends WeakRef {} print(new R(k) instanceof R, new R(k).deref() === k);`, "set; 4; true true"}, {`WeakSet.prototype.add = 1; new WeakSet([]);`, " ! TypeError"},
	} {
		check(t, c[0], c[1])
	}
}

// The cleanups of a registry that the world keeps.
func TestRegistries(t *testing.T) {
	for _, c := range [][2]string{
		{`print.f = new FinalizationRegistry(print); print.f.register({}, 1); print.f.register({}, 2); print(0);`, "0; 1; 2"}, {`let o = {}; print.o = o; print.f = new FinalizationRegistry(print); print.f.register(o, 1); print.f.register({}, 2); print.f.register(o, 3);`, "2"},
		{`print.f = new FinalizationRegistry((h) => print(typeof h, h.a)); print.f.register({}, {a: 5}); print.f.register({}, print);`, "object 5; function undefined"}, {`print.f = new FinalizationRegistry(print); let t = {}; print.f.register({}, 1, t); print.f.register({}, 2); print.f.register({}, 3, t); print(print.f.unregister(t), print.f.unregister(t), print.f.unregister({}));`, "true false false; 2"},
		{`let o = {}; print.f = new FinalizationRegistry(print); print.f.register(o, "self", o); print.f.register({}, "token dead", {});`, "self; token dead"}, {`print.f = new FinalizationRegistry((h) => { print(h); if (h < 3) print.f.register({}, h + 1); }); print.f.register({}, 1);`, "1; 2; 3"}, {`let f = new FinalizationRegistry(print); f.register({}, 1); (() => 1)();`, "1"}, {`let f = new FinalizationRegistry(print); f.register({}, 1);`, ""},
		{`print.t = {}; print.f = new FinalizationRegistry((h) => { print(h); print.f.unregister(print.t); }); print.f.register({}, 1); print.f.register({}, 2, print.t); print.f.register({}, 3);`, "1; 3"}, {`print.f = new FinalizationRegistry((h) => { print(h); if (h === 1) throw new Error("x"); }); print.f.register({}, 1); print.f.register({}, 2);`, "1 ! Error: x"},
		{`print.f = new FinalizationRegistry(function () { print(this); }); print.f.register({}, 1);`, "undefined"}, {`let o = {}; print.w = new WeakRef(o); print.f = new FinalizationRegistry(() => print(print.w.deref())); print.f.register(o, 1); print(print.w.deref() === o); o = 1;`, "true; undefined"},
		{`let o = {}; print.w = new WeakMap([[o, {}]]); print.f = new FinalizationRegistry(print); print.f.register(print.w.get(o), "value"); print.f.register(o, "key");`, "value; key"}, {`let o = {}; print.o = o; print.w = new WeakMap([[o, {}]]); print.f = new FinalizationRegistry(print); print.f.register(print.w.get(o), "value");`, ""}, {`let o = {}; print.w = new WeakMap([[o, {o}]]); print.f = new FinalizationRegistry(print); print.f.register(o, "circle");`, "circle"}, {`let o = {}; print.o = o; { let m = new WeakMap([[o, {}]]); print.f = new FinalizationRegistry(print); print.f.register(m.get(o), "map gone"); }`, "map gone"},
		{`let a = {}, b = {}; print.w = new WeakMap([[a, b], [b, {c: 1}]]); print.a = a; (() => 1)(); print.f = new FinalizationRegistry(print); print.f.register(print.w.get(b), 1); print(print.w.get(print.w.get(print.a)).c);`, "1"}, {`print.s = new WeakSet([{}]); let o = {}; print.s.add(o); print.f = new FinalizationRegistry(print); print.f.register(o, "in a set");`, "in a set"},
	} {
		check(t, c[0], c[1])
	}
}

// P3: within a job a target that was used stays; later all references to it become empty together.
func TestWeakRefsAndJobs(t *testing.T) {
	m := world(wide, api.Script{All: true})
	ctor := m.Env(m.World).Vals[len(m.Env(m.World).Vals)-2]
	target := m.Object()
	a, _ := m.Construct(ctor, []api.Val{target}, ctor)
	b, _ := m.Construct(ctor, []api.Val{target}, ctor)
	m.Hold(a, b)
	for range 3 {
		m.Point()
		if v, _ := method(t, m, a, "deref"); v != target {
			t.Fatalf("deref = %v", v)
		}
	}
	m.Kept = nil
	if v, _ := method(t, m, b, "deref"); v != target {
		t.Fatalf("deref = %v", v)
	}
	m.Point()
	if !slices.Equal(m.Kept, []int{ref(target)}) || m.Of(target) == nil {
		t.Errorf("kept %v", m.Kept)
	}
	m.Kept = nil
	m.Point()
	for _, r := range []api.Val{a, b} {
		if v, end := method(t, m, r, "deref"); v != (api.Val{}) || end != vm.Fine {
			t.Errorf("deref = %v, %d", v, end)
		}
	}
	// The cell is used again, but nothing refers to it any more.
	for m.Object() != target {
	}
	if v, _ := method(t, m, a, "deref"); v != (api.Val{}) || len(m.Kept) != 0 {
		t.Errorf("deref = %v, kept %v", v, m.Kept)
	}
}

func registry(t *testing.T, m *vm.Machine) (int, *heap.Obj) {
	t.Helper()
	values := m.Env(m.World).Vals
	ctor := values[len(values)-1]
	v, end := m.Construct(ctor, []api.Val{values[4]}, ctor)
	if end != vm.Fine {
		t.Fatalf("no registry: %v", v)
	}
	return ref(v), m.Of(v)
}

// A target that dies while a cleanup is in progress is left to the next one.
func TestCleanLeavesLaterTargets(t *testing.T) {
	m, v, end := run(t, `print.g = new FinalizationRegistry(print); print.f = new FinalizationRegistry((h) => { print("begin", h); if (h < 3) print.f.register({}, h + 2); (() => 1)(); (() => 1)(); print("end", h); }); print.f.register({}, 1); print.f.register({}, 2);`, wide, api.Script{All: true})
	if got := outcome(m, v, end); got != "begin 1; end 1; begin 2; end 2; begin 3; end 3; begin 4; end 4" {
		t.Errorf("%s", got)
	}
	m = world(wide, api.Script{All: true})
	r, o := registry(t, m)
	m.Hold(value.Object(r))
	for i := range 3 {
		method(t, m, value.Object(r), "register", m.Object(), whole(i))
	}
	m.Point()
	if !slices.Equal(m.Ready, []int{r}) || !slices.Equal(m.Lists, []int{r}) {
		t.Errorf("ready %v of %v", m.Ready, m.Lists)
	}
	method(t, m, value.Object(r), "register", m.Object(), whole(9))
	if v, end := weak.Clean(m, r); v != (api.Val{}) || end != vm.Fine || strings.Join(m.Trace, " ") != "0 1 2" || len(m.Ready) != 0 {
		t.Errorf("Clean = %v, %d, %v, ready %v", v, end, m.Trace, m.Ready)
	}
	if len(o.Faint) != 2 || len(o.Slots) != 2 || m.Depth() != 1 {
		t.Errorf("%v, %v are left, %d roots", o.Faint, o.Slots, m.Depth())
	}
	if _, end := weak.Clean(m, r); end != vm.Fine || len(m.Trace) != 3 {
		t.Errorf("cleaned up twice: %v", m.Trace)
	}
	m.Point()
	weak.Clean(m, r)
	if strings.Join(m.Trace, " ") != "0 1 2 9" {
		t.Errorf("%v", m.Trace)
	}
}

// An exception ends a cleanup; what is left is ready again after a collection.
func TestCleanThatThrows(t *testing.T) {
	m, v, end := run(t, `print.f = new FinalizationRegistry((h) => { if (h === 2) throw "two"; print(h); }); for (const i of [1, 2, 3, 4]) print.f.register({}, i);`, wide, api.Script{All: true})
	if got := outcome(m, v, end); got != "1 ! two" {
		t.Fatalf("%s", got)
	}
	m.Ready = nil
	m.Point()
	if len(m.Ready) != 1 {
		t.Fatalf("ready %v", m.Ready)
	}
	if v, end := weak.Clean(m, m.Ready[0]); v != (api.Val{}) || end != vm.Fine || strings.Join(m.Trace, " ") != "1 3 4" || len(m.Ready) != 0 {
		t.Errorf("Clean = %v, %d, %v", v, end, m.Trace)
	}
	for _, r := range []int{0, -1, 1, 9999, m.World} {
		if v, end := weak.Clean(m, r); v != (api.Val{}) || end != vm.Fine {
			t.Errorf("Clean(%d) = %v, %d", r, v, end)
		}
	}
}

// P18.2: nothing is lost that a program can still reach, at whatever safepoints it is collected.
func TestNothingIsLost(t *testing.T) {
	const s = `let keys = []; const w = new WeakMap(), v = new WeakSet(); for (let i = 0; i < 12; i++) { const k = {i}; keys.push(k); w.set(k, {next: keys[i - 1], n: [i]}); v.add(k); w.set({}, k); } for (let i = 11; i > 0; i--) if (w.get(w.get(keys[i]).next).n[0] !== i - 1 || !v.has(keys[i])) print("lost", i); keys.length = 3; print(keys.map((k) => w.get(k).n)); const r = new WeakRef(keys[0]); keys = [keys[1]]; print(r.deref().i, w.get(keys[0]).next.i);`
	for i := range 200 {
		gc := make([]bool, i)
		for j := range gc {
			gc[j] = j*7%11 == i%11 || j == i-1
		}
		m, v, end := run(t, s, wide, api.Script{Gc: gc})
		if got := outcome(m, v, end); got != "[[0], [1], [2]]; 0 0" {
			t.Fatalf("collected at %v: %s", gc, got)
		}
	}
}

func TestWorld(t *testing.T) {
	m := world(wide, api.Script{})
	values := m.Env(m.World).Vals
	values = values[len(values)-4:]
	if weak.Names != "WeakMap WeakSet WeakRef FinalizationRegistry" || weak.First != 300 || weak.Last != 399 {
		t.Error("the constants")
	}
	lengths := []int{0, 0, 1, 1}
	methods := []string{"get1 set2 has1 delete1", "add1 has1 delete1", "deref0", "register2 unregister1"}
	for i, name := range strings.Fields(weak.Names) {
		checkFunction(t, m, values[i], name, lengths[i])
		for _, w := range strings.Fields(methods[i]) {
			f, flags, ok := m.Obj(m.Protos[vm.WeakMapProto+i]).Own(text.Val(w[:len(w)-1]))
			if !ok || flags != heap.Hidden {
				t.Errorf("%s: flags %d", w, flags)
			}
			checkFunction(t, m, f, w[:len(w)-1], int(w[len(w)-1]-'0'))
		}
	}
}

func checkFunction(t *testing.T, m *vm.Machine, f api.Val, name string, n int) {
	t.Helper()
	length, _ := m.Member(f, "length")
	own, _ := m.Member(f, "name")
	if length != whole(n) || own != text.Val(name) {
		t.Errorf("%s: length %v, name %v", name, length, own)
	}
}

// P0: nothing panics, whatever is asked of it.
func TestStrangeCalls(t *testing.T) {
	for id := weak.First - 1; id <= weak.Last+1; id++ {
		for i := range 8 {
			m := world(wide, api.Script{})
			bare, _ := m.Make(heap.WeakMap, 0)
			ref, _ := m.Make(heap.WeakRef, 0)
			reg, _ := m.Make(heap.Registry, 0)
			f := m.Env(m.World).Vals[5]
			args := []api.Val{{}, m.Iterator, m.Array([]api.Val{whole(1)}), m.Object(), value.Object(bare), value.Object(ref), value.Object(reg), f}
			weak.Do(m, id, vm.Call{This: args[i], Args: args[:i]})
			weak.Do(m, id, vm.Call{This: args[i], Args: args[3:]})
			weak.Do(m, id, vm.Call{This: args[i], Args: args[i:], Target: f})
			weak.Clean(m, reg)
			m.Point()
		}
		weak.Do(nil, id, vm.Call{})
	}
	weak.Clean(nil, 1)
	if weak.World(nil) != nil {
		t.Error("nil has a world")
	}
}
