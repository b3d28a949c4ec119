package keyed_test

import (
	"strings"
	"testing"

	"ossuary/api"
	"ossuary/heap"
	"ossuary/keyed"
	"ossuary/otable"
	"ossuary/text"
	"ossuary/value"
	"ossuary/vm"
)

func TestMapsAndSets(t *testing.T) {
	for _, c := range [][2]string{
		{`print([...new Set([1, 2, 1])]);`, "[1, 2]"}, {`let m = new Map([[1, 2], ["a", {}]]); print(m.size, m.get(1), m.get("1"), m.has("a"), m.set(1, 3) === m, m.get(1), m.delete("a"), m.delete("a"), [...m], m.clear(), m.size);`, "2 2 undefined true true 3 true false [[1, 3]] undefined 0"},
		{`let s = new Set(); print(s.add(-0) === s, s.has(0), [...s][0] === 0, s.add(NaN).has(NaN), s.size, s.delete(0), [...s.entries()], s.clear(), s.size);`, "true true true true 2 true [[NaN, NaN]] undefined 0"}, {`let m = new Map().set(-0, -0); for (const [k, v] of m) print(1 / k, 1 / v);`, "Infinity -Infinity"},
		{`let a = {}, b = {}; let m = new Map([[a, 1], [b, 2], [a, 3]]); print(m.get(a), m.get(b), m.size, m.get({}));`, "3 2 2 undefined"}, {`let m = new Map(); m.set(); print(m.size, m.has(), m.has(undefined), m.get());`, "1 true true undefined"},
		{`new Map([[1, "a"], [2, "b"]]).forEach(function (v, k, m) { print(v, k, m, this); }, "t"); new Set(["x"]).forEach((v, k, s) => print(v, k, s)); print(new Set([1]).forEach(() => 5));`, "a 1 [Map] t; b 2 [Map] t; x x [Set]; undefined"}, {`new Map().forEach({});`, " ! TypeError"}, {`new Set([1, 2]).forEach((x) => { throw x; });`, " ! 1"}, {`let s = new Set([1, 2, 3]); s.forEach((x) => { print(x); s.delete(2); if (x < 6) s.add(x + 3); });`, "1; 3; 4; 6; 7"},
		{`let m = new Map([[1, 2]]); print([...m.keys()], [...m.values()], [...m.entries()], m.entries === m[Symbol.iterator], m.keys(), Set.prototype.keys === Set.prototype.values, Set.prototype.values === Set.prototype[Symbol.iterator], new Set([5]).keys().next().value);`, "[1] [2] [[1, 2]] true [Iterator] true true 5"},
		{`let m = new Map([[1, 1], [2, 2], [3, 3]]), i = m.keys(); i.next(); m.delete(2); m.set(4, 4); m.delete(1); m.set(1, 1); print(...i); m.set(9, 9); print(i.next().done);`, "3 4 1; true"}, {`let s = new Set([1, 2]), i = s.values(); i.next(); s.clear(); s.add(7); print(...i);`, "7"},
		{`Map();`, " ! TypeError"}, {`Set([]);`, " ! TypeError"}, {`new Map(1);`, " ! TypeError"}, {`new Map("ab");`, " ! TypeError"}, {`new Map([1]);`, " ! TypeError"}, {`new Set(true);`, " ! TypeError"}, {`print(new Set("aba").size, new Map(null).size, new Set(undefined).size, new Map([[]]).has(undefined), new Map([{0: 1, 1: 2}]).get(1), new Map([(() => 1)]).size);`, "2 0 0 true 2 1"},
		{`Map.prototype.set = 1; print(new Map().size); new Map([]);`, "0 ! TypeError"}, {`let n = 0; let set = Map.prototype.set; Map.prototype.set = function (k, v) { n++; Map.prototype.set = 5; return set.call(this, k, v); }; print(new Map([[1, 2], [3, 4]]).size, n);`, "2 2"}, {`Object.defineProperty(Set.prototype, "add", {value: undefined}); new Set([1]);`, " ! TypeError"},
		{`let o = {[Symbol.iterator]() { return {next() { return {done: false, value: 1}; }, return() { print("closed"); return {}; }}; }}; try { new Map(o); } catch (e) { print(e); } Set.prototype.add = () => { throw "add"; }; new Set(o);`, "closed; TypeError; closed ! add"}, {`Set.prototype.add = () => 1 / 2; let o = {[Symbol.iterator]() { return {next() { return {done: false, value: 1}; }, return() { print("closed"); return {}; }}; }}; new Set(o);`, " ! end 6"},
		{`class M extends Map { set(k, v) { return super.set(k, v * 2); } count() { return super.size; } } let m = new M([[1, 2]]); print(m.get(1), typeof m.count(), m.size, m instanceof M, m);`, "4 function 1 true [Map]"}, {`class S extends Set {} print(new S([1, 1]).size, new S() instanceof S);`, "1 true"},
		{`Map.prototype.size;`, " ! TypeError"}, {`let f = new Map().get; f(1);`, " ! TypeError"}, {`Map.prototype.get.call(new Set(), 1);`, " ! TypeError"}, {`Set.prototype.has.call(new Map(), 1);`, " ! TypeError"}, {`Set.prototype.add.call({}, 1);`, " ! TypeError"}, {`Map.prototype.entries.call([]);`, " ! TypeError"}, {`new Map().size = 1;`, " ! TypeError"}, {`let d = Object.getOwnPropertyDescriptor(Map.prototype, "size"); print(d, "size" in new Map(), new Map().hasOwnProperty("size"));`, "undefined true false"},
		{`let m = new Map(); m.x = 1; print(m.x, Object.keys(m), m.get("x")); Object.freeze(m); m.set(1, 2); print(m.get(1));`, "1 [x] undefined; 2"}, {`function* g() { yield ["a", 1]; yield ["b", 2]; } print([...new Map(g())]);`, "[[a, 1], [b, 2]]"},
		{`let s = new Set(); for (let i = 0; i < 300; i++) { s.add({i}); s.add(i); if (i % 2) s.delete(i); } let n = 0; for (const x of s) if (typeof x === "object") n += x.i; print(s.size, n);`, "450 44850"},
	} {
		check(t, c[0], c[1])
	}
}

func TestFill(t *testing.T) {
	m := world(wide, api.Script{All: true})
	r, o := m.Make(heap.Map, m.Protos[vm.MapProto])
	o.Table = otable.New()
	v := value.Object(r)
	pairs := m.Array([]api.Val{m.Array([]api.Val{whole(1), whole(2)})})
	for _, from := range []api.Val{{}, {K: api.Null}} {
		if got, end := keyed.Fill(m, v, from, "nothing", false); got != v || end != vm.Fine {
			t.Errorf("Fill from nothing: %v, %d", got, end)
		}
	}
	if got, end := keyed.Fill(m, v, pairs, "set", false); got != v || end != vm.Fine || o.Table.Len() != 1 {
		t.Errorf("Fill: %v, %d, %d entries", got, end, o.Table.Len())
	}
	if got, end := keyed.Fill(m, v, pairs, "delete", true); got != v || end != vm.Fine {
		t.Errorf("Fill alone: %v, %d", got, end)
	}
	for name, from := range map[string]api.Val{"nothing": pairs, "set": whole(1), "size": pairs} {
		if got, end := keyed.Fill(m, v, from, name, false); end != vm.Threw || m.Class(got) != heap.Error {
			t.Errorf("Fill by %s: %v, %d", name, got, end)
		}
	}
	if m.Depth() != 0 {
		t.Errorf("%d roots are left", m.Depth())
	}
}

func TestWorld(t *testing.T) {
	m := world(wide, api.Script{})
	values := m.Env(m.World).Vals
	maps, sets := values[len(values)-2], values[len(values)-1]
	if keyed.Names != "Map Set" || keyed.First != 200 || keyed.Last != 299 {
		t.Error("the constants")
	}
	for _, c := range []struct {
		f       api.Val
		proto   int
		name    string
		methods string
	}{
		{maps, vm.MapProto, "Map", "get1 set2 has1 delete1 clear0 forEach1 entries0 keys0 values0"}, {sets, vm.SetProto, "Set", "add1 has1 delete1 clear0 forEach1 entries0 values0"},
	} {
		checkFunction(t, m, c.f, c.name, 0)
		for _, w := range strings.Fields(c.methods) {
			f, flags, ok := m.Obj(m.Protos[c.proto]).Own(text.Val(w[:len(w)-1]))
			if !ok || flags != heap.Hidden {
				t.Errorf("%s: flags %d", w, flags)
			}
			checkFunction(t, m, f, w[:len(w)-1], int(w[len(w)-1]-'0'))
		}
		get, flags, _ := m.Obj(m.Protos[c.proto]).Own(text.Val("size"))
		if flags != heap.Getter|heap.Configurable || m.Maker(get) {
			t.Errorf("the flags of size are %d", flags)
		}
		checkFunction(t, m, get, "get size", 0)
	}
}

func checkFunction(t *testing.T, m *vm.Machine, f api.Val, name string, n int) {
	t.Helper()
	length, _ := m.Member(f, "length")
	own, _ := m.Member(f, "name")
	if length != whole(n) || own != text.Val(name) {
		t.Errorf("%s: length %v, name %v", name, length, own)
	}
}

// P6: what iterations leave behind takes no room.
func TestStorage(t *testing.T) {
	m, v, end := run(t, `print(1); Map.kept = new Map(); for (let i = 0; i < 200; i++) { Map.kept.set(i, 1); Map.kept.keys().next(); for (const x of Map.kept) break; Map.kept.delete(i); }`, wide, api.Script{All: true})
	if end != vm.Fine {
		t.Fatal(outcome(m, v, end))
	}
	m.Point()
	values := m.Env(m.World).Vals
	kept, _ := m.Member(values[len(values)-2], "kept")
	if s := m.Of(kept).Table.Storage(); s > 16 {
		t.Errorf("an empty table takes %d places", s)
	}
}

// P0: nothing panics, whatever is asked of it.
func TestStrangeCalls(t *testing.T) {
	for id := keyed.First - 1; id <= keyed.Last+1; id++ {
		for i := range 6 {
			m := world(wide, api.Script{})
			bare, _ := m.Make(heap.Map, 0)
			f := m.Env(m.World).Vals[1]
			args := []api.Val{{}, m.Iterator, m.Array([]api.Val{whole(1)}), m.Object(), value.Object(bare), f}
			keyed.Do(m, id, vm.Call{This: args[i], Args: args[:i]})
			keyed.Do(m, id, vm.Call{This: args[i], Args: args[i:], Target: args[5]})
			keyed.Fill(m, args[i], args[5-i], "set", i > 2)
		}
		keyed.Do(nil, id, vm.Call{})
	}
	keyed.Fill(nil, api.Val{}, api.Val{}, "", false)
	if keyed.World(nil) != nil {
		t.Error("nil has a world")
	}
}
