package list_test

import (
	"slices"
	"strings"
	"testing"

	"ossuary/api"
	"ossuary/heap"
	"ossuary/list"
	"ossuary/otable"
	"ossuary/text"
	"ossuary/value"
	"ossuary/vm"
)

const hard = " ! end 6"

func TestArray(t *testing.T) {
	for _, c := range [][2]string{
		{`print([1, , 3].map((x) => x + 1));`, "[2, , 4]"},
		{`print(Array(1, 2), Array("a"), new Array("x", null), Array(), Array(undefined), Array.of(3), Array.of(), Array.of(1, undefined));`, "[1, 2] [a] [x, null] [] [undefined] [3] [] [1, undefined]"},
		{`Array(3);`, hard}, {`new Array(0);`, hard}, {`Array(NaN);`, hard}, {`Array(-0);`, hard}, {`Array(Infinity);`, hard},
		{`print(Array.isArray([]), Array.isArray({}), Array.isArray(), Array.isArray("a"), Array.isArray(new Array()));`, "true false false false true"},
		{`print(Array.from([1, , 3]), Array.from([5, 6], (x, i) => x * 10 + i), Array.from([7].values()));`, "[1, undefined, 3] [50, 61] [7]"},
		{`function* g() { yield 1; yield 2; } print(Array.from(g()), [...g()], Array.from(g(), (x) => [x]));`, "[1, 2] [1, 2] [[1], [2]]"},
		{`Array.from({});`, hard}, {`Array.from(5);`, hard}, {`Array.from({length: 2});`, hard}, {`Array.from();`, " ! TypeError"}, {`Array.from(null);`, " ! TypeError"}, {`Array.from([], 1);`, " ! TypeError"}, {`Array.from([], null);`, " ! TypeError"}, {`Array.from({[iterator]: 1});`, " ! TypeError"}, {`Array.from({[iterator]: null});`, hard},
		{`function* g() { for (;;) yield 1; } Array.from(g());`, hard},
		{`let o = {[iterator]() { return {next() { return {done: false, value: 1}; }, return() { print("closed"); return {}; }}; }}; try { Array.from(o, (x, i) => { if (i === 3) throw i; }); } catch (e) { print(e); } Array.from(o, () => 1 / 2);`, "closed; 3" + hard},
		{`class A extends Array { } let a = A.from([1, 2]); print(a instanceof A, a); class B { } let b = B.from; let f = {from: Array.from}; print(f.from([3]));`, "true [1, 2]; [3]"},
		{`class A extends Array { } print(new A("x", "y"), new A() instanceof A); A.of(1, 2);`, "[x, y] true" + hard},
		{`function F() { this.set = true; } F.from = Array.from; let x = F.from(["a", "b"]); print(x instanceof F, x[0], x[1], x.length, x.set); F.of = Array.of; print(F.of(4)[0]);`, "true a b 2 true; 4"},
		{`function F() { return Object; } let Object = []; Object.length = 10000; F.from = Array.from; print(F.from([1]).length);`, "1"},
	} {
		check(t, c[0], c[1])
	}
}

func TestMethods(t *testing.T) {
	for _, c := range [][2]string{
		{`let a = []; print(a.push(1), a.push(2, 3), a.push(), a);`, "1 3 3 [1, 2, 3]"}, {`let a = [1, 2]; print(a.pop(), a.pop(), a.pop(), a, [1, ,].pop());`, "2 1 undefined [] undefined"},
		{`let a = []; a.length = 9999; print(a.push(1)); a.push(2);`, "10000" + hard}, {`let a = [, 1]; a.pop(); print(a.length, a.pop(), a.length);`, "1 undefined 0"},
		{`print([...["a", "b"].keys()], [...["a"].values()], [...["a", "b"].entries()], [][iterator] === [].values);`, "[0, 1] [a] [[0, a], [1, b]] true"},
		{`print([1, 2, 1].indexOf(1, 1), [1].indexOf("1"), [NaN].indexOf(NaN), [-0].indexOf(0), [1, 2, 3].indexOf(1, -3), [1, 2, 3].indexOf(1, -2), [1, 2].indexOf(2, -99), [].indexOf(1, {}));`, "2 -1 -1 0 0 -1 1 -1"},
		{`[1].indexOf(1, "0");`, hard}, {`[1].indexOf(1, {});`, hard}, {`[1].indexOf(1, iterator);`, " ! TypeError"}, {`print([1, 2, 3].slice(1), [1, 2, 3].slice(-1), [1, 2, 3].slice(0, -1), [1, , 3].slice(0, 2), [].slice(), [1, 2].slice(1, 1), [1, 2].slice(9, 10), [1].slice(null, true), [1, 2].slice(-Infinity, Infinity), [1, 2].slice(NaN));`, "[2, 3] [3] [1, 2] [1, ] [] [] [] [1] [1, 2] [1, 2]"},
		{`[1].slice("0");`, hard}, {`[1].slice(0, {});`, hard}, {`[1].slice(iterator);`, " ! TypeError"},
		{`print([1, null, undefined, , "x", true, -0, NaN].join(), [1, 2].join("--"), [].join(), [, ,].join("a"), [1, 2].join(null), [1, 2].join(3));`, "1,,,,x,true,0,NaN 1--2  a 1null2 132"},
		{`[[1]].join();`, hard}, {`[{}].join();`, hard}, {`[1].join({});`, hard}, {`[iterator].join();`, " ! TypeError"}, {`[].join(iterator);`, " ! TypeError"},
		{`let s = "x"; for (let i = 0; i < 15; i++) s += s; print([s, s].join("").length); [s, s].join();`, "65536" + hard}, {`let a = []; a.length = 10000; let s = "x"; for (let i = 0; i < 15; i++) s += s; a.join(s);`, hard},
		{`[1, , 3].forEach((x, i, a) => print(x, i, a.length)); print([1].forEach(() => 5));`, "1 0 3; 3 2 3; undefined"}, {`[].forEach({});`, " ! TypeError"}, {`[1].map();`, " ! TypeError"}, {`[1, 2].map((x) => { print(x); throw x; });`, "1 ! 1"}, {`print([1, , 3].map((x) => [x]), [].map(print), [3].map(function () { return this; }, "t"), [3].forEach(function () { print(this); }));`, "undefined; [[1], , [3]] [] [t] undefined"},
		{`let a = [1, 2, 3]; print(a.map((x) => { a.length = 2; return x; })); let b = [1, 2]; b.map((x) => { b.push(x); }); print(b);`, "[1, 2, ]; [1, 2, 1, 2]"}, {`let a = [1]; a.constructor = 5; print(a.push(2)); a.map(print);`, "2 ! TypeError"}, {`let a = [1]; a.constructor = null; a.slice();`, " ! TypeError"}, {`let a = [1]; a.constructor = undefined; print(a.slice(), a.map((x) => x)); a.constructor = {}; print(a.slice());`, "[1] [1]; [1]"},
		{`({push: [].push}).push(1);`, hard}, {`({pop: [].pop}).pop();`, hard}, {`({map: [].map}).map(print);`, hard}, {`({forEach: [].forEach}).forEach(print);`, hard}, {`({join: [].join}).join();`, hard}, {`({slice: [].slice}).slice();`, hard}, {`({indexOf: [].indexOf}).indexOf();`, hard}, {`({values: [].values}).values();`, hard}, {`({keys: [].keys}).keys();`, hard}, {`({entries: [].entries}).entries();`, hard}, {`let p = [].push; p(1);`, hard}, {`[...{[iterator]: [].values}];`, hard},
	} {
		check(t, c[0], c[1])
	}
}

// These skip holes even if the prototype chain has something there; the others don't.
func TestHolesAndPrototypes(t *testing.T) {
	check(t, `let p = Array.from([]).map; class A extends Array {} A.prototype[1] = "proto"; let a = new A("a", "b", "c"); delete a[1]; print(a[1], 1 in a); a.forEach((x) => print(x)); print(a.map((x) => x), a.indexOf("proto"), a.join(), [...a], a.slice(), Array.from(a.entries())[1]); delete a[2]; a.length = 2; print(a.pop(), a.length);`,
		"proto true; a; c; [a, , c] -1 a,,c [a, proto, c] [a, proto, c] [1, proto]; undefined 1")
}

func TestWalkersInPrograms(t *testing.T) {
	for _, c := range [][2]string{
		{`let a = [1, 2], i = a.values(); print(i.next().value, i.next().value, i.next().done, i.next().value); a.push(3); print(i.next().done);`, "1 2 true undefined; true"},
		{`let a = [1], i = a.keys(); i.next(); a.push(5); print(i.next().value, i.next().done);`, "1 true"}, {`let a = [1, 2, 3]; for (const x of a) { a.length = 1; print(x); }`, "1"}, {`let i = [1].entries(), e = i.next().value; print(e, e.length, i.next().done);`, "[0, 1] 2 true"},
		{`let n = [].values().next; n();`, " ! TypeError"}, {`({next: [].values().next}).next();`, " ! TypeError"}, {`let i = [1, 2].values(); for (const x of i) { print(x); break; } print(...i);`, "1; 2"}, {`for (const x of [, 1]) print(x);`, "undefined; 1"},
	} {
		check(t, c[0], c[1])
	}
}

// values lists what a walker yields.
func values(t *testing.T, m *vm.Machine, w api.Val) []api.Val {
	t.Helper()
	var l []api.Val
	for {
		r, end := method(t, m, w, "next")
		if end != vm.Fine {
			t.Fatalf("next: %v, %d", r, end)
		}
		v, _ := m.Member(r, "value")
		if done, _ := m.Member(r, "done"); value.True(done) {
			return l
		}
		if o := m.Of(v); o != nil {
			l = append(l, o.Elems...)
		} else {
			l = append(l, v)
		}
	}
}

func TestWalkers(t *testing.T) {
	m := world(wide, api.Script{})
	arr := m.Array([]api.Val{whole(7), {K: api.Empty}})
	tab := otable.New()
	tab.Put(text.Val("k"), whole(1), 0)
	tab.Put(whole(2), whole(3), 0)
	owner := m.Object()
	for i, c := range []struct {
		w    api.Val
		want []api.Val
	}{
		{list.Walker(m, list.Entries, arr), []api.Val{whole(0), whole(7), whole(1), {}}}, {list.Walker(m, list.Keys, arr), []api.Val{whole(0), whole(1)}}, {list.Walker(m, list.Vals, arr), []api.Val{whole(7), {}}},
		{list.Walker(m, list.Signs, text.Val("a\U0001F600b")), []api.Val{text.Val("a"), text.Val("\U0001F600"), text.Val("b")}}, {list.Walker(m, list.Signs, api.Val{K: api.Str, S: "\xd8\x3d\x00a"}), []api.Val{{K: api.Str, S: "\xd8\x3d"}, text.Val("a")}}, {list.Walker(m, list.Signs, text.Val("")), nil},
		{list.TableWalker(m, list.Entries, owner, tab), []api.Val{text.Val("k"), whole(1), whole(2), whole(3)}}, {list.TableWalker(m, list.Keys, owner, tab), []api.Val{text.Val("k"), whole(2)}}, {list.TableWalker(m, list.Vals, owner, tab), []api.Val{whole(1), whole(3)}},
		{list.Walker(m, list.Vals, whole(3)), nil}, {list.TableWalker(m, list.Vals, owner, nil), nil},
	} {
		o := m.Of(c.w)
		if o.Class != heap.Walker || o.Proto != m.Protos[vm.WalkerProto] {
			t.Errorf("%d: the walker is %v", i, o)
		}
		if got := values(t, m, c.w); !slices.Equal(got, c.want) {
			t.Errorf("%d: %v, not %v", i, got, c.want)
		}
		if got := values(t, m, c.w); got != nil || len(o.Slots) != 0 || o.Cursor.Open() {
			t.Errorf("%d: a walker that is done yields %v", i, got)
		}
	}
	if tab.Storage() != 2 {
		t.Errorf("%d places are taken", tab.Storage())
	}
}

// A walker over a table keeps what has the table, goes on as the table changes, and closes its cursor when it is freed.
func TestTableWalkerLives(t *testing.T) {
	m := world(wide, api.Script{All: true})
	tab := otable.New()
	tab.Put(whole(1), whole(1), 0)
	owner := m.Object()
	w := list.TableWalker(m, list.Keys, owner, tab)
	m.Hold(w)
	m.Point()
	if m.Of(owner) == nil || tab.Storage() != 2 {
		t.Errorf("the owner is gone, or storage is %d", tab.Storage())
	}
	tab.Put(whole(2), whole(2), 0)
	tab.Delete(whole(1))
	if got := values(t, m, w); !slices.Equal(got, []api.Val{whole(2)}) {
		t.Errorf("the walker yields %v", got)
	}
	m.Release(1)
	m.Hold(list.TableWalker(m, list.Keys, owner, tab))
	before := tab.Storage()
	m.Release(1)
	m.Point()
	if m.Of(owner) != nil || tab.Storage() != before-1 {
		t.Errorf("storage %d, and %d ahead of it", tab.Storage(), before)
	}
}

func TestWorld(t *testing.T) {
	m := world(wide, api.Script{})
	array := m.Env(m.World).Vals[0]
	for name, n := range map[string]int{"push": 1, "pop": 0, "values": 0, "keys": 0, "entries": 0, "forEach": 1, "map": 1, "indexOf": 1, "join": 1, "slice": 2} {
		checkFunction(t, m, value.Object(m.Protos[vm.ArrayProto]), name, n)
	}
	for name, n := range map[string]int{"isArray": 1, "from": 1, "of": 0} {
		checkFunction(t, m, array, name, n)
	}
	checkFunction(t, m, value.Object(m.Protos[vm.ArrayProto]), "constructor", 1)
	checkFunction(t, m, value.Object(m.Protos[vm.WalkerProto]), "next", 0)
	if f, _, _ := m.Obj(m.Protos[vm.ArrayProto]).Own(m.Iterator); f.K != api.Obj {
		t.Error("arrays have no iterator")
	}
	if list.First != 150 || list.Last != 199 || list.Names != "Array" || list.Entries != 0 || list.Keys != 1 || list.Vals != 2 || list.Signs != 3 {
		t.Error("the constants")
	}
}

// checkFunction checks the name, the length and the flags of a native function.
func checkFunction(t *testing.T, m *vm.Machine, of api.Val, name string, n int) {
	t.Helper()
	f, flags, ok := m.Of(of).Own(text.Val(name))
	length, _ := m.Member(f, "length")
	own, _ := m.Member(f, "name")
	if name == "constructor" {
		own = text.Val(name)
	}
	if !ok || flags != heap.Hidden || length != whole(n) || own != text.Val(name) {
		t.Errorf("%s: flags %d, length %v, name %v", name, flags, length, own)
	}
}

func TestSteps(t *testing.T) {
	for _, s := range []string{"a.map((x) => 1);", "a.indexOf(5);", "a.join();", "a.slice();", "Array.from(a);", "a.push(...[1, 2]);"} {
		m, _, _ := run(t, "let a = []; a.length = 5000; "+s, wide, api.Script{})
		if m.Steps > 1000+20*5000 || m.End != 0 {
			t.Errorf("%s takes %d steps", s, m.Steps)
		}
		if strings.Contains(s, "push") {
			continue
		}
		if few, _, _ := run(t, "let a = []; a.length = 5000; "+s, api.Bounds{Fuel: 3000, Depth: 9, Cells: 9999}, api.Script{}); few.End != api.EndFuel {
			t.Errorf("%s takes no steps", s)
		}
	}
}

// P0: nothing panics, whatever is asked of it.
func TestStrangeCalls(t *testing.T) {
	for id := list.First - 1; id <= list.Last+1; id++ {
		for i := range 6 {
			m := world(wide, api.Script{})
			args := []api.Val{{}, m.Iterator, m.Array([]api.Val{whole(1)}), m.Object(), text.Val("ab"), whole(-1)}
			list.Do(m, id, vm.Call{This: args[i], Args: args[:i]})
			list.Do(m, id, vm.Call{This: args[2], Args: args[i:]})
		}
		list.Do(nil, id, vm.Call{})
	}
	if list.World(nil) != nil || list.Walker(nil, 0, api.Val{}) != (api.Val{}) || list.TableWalker(nil, 0, api.Val{}, nil) != (api.Val{}) {
		t.Error("nil makes something")
	}
}
