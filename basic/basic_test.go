package basic_test

import (
	"strings"
	"testing"

	"ossuary/api"
	"ossuary/basic"
	"ossuary/heap"
	"ossuary/text"
	"ossuary/value"
	"ossuary/vm"
)

const hard = " ! end 6"

func checkAll(t *testing.T, l [][2]string) {
	t.Helper()
	for _, c := range l {
		check(t, c[0], c[1])
	}
}

func TestPrint(t *testing.T) {
	checkAll(t, [][2]string{
		{`print([1, [2], "a"]);`, "[1, [2], a]"}, {`print(); print(1, "b", null); print("a\nb\\");`, "; 1 b null; a\\u000Ab\\\\"}, {`print(print(1));`, "1; undefined"}, {`print(print, Symbol("s"), {}, [[[[1]]]], new Error("m"));`, "function print Symbol(s) [Object] [[[[..]]]] Error: m"},
		{`let a = [1]; a.push(a); print(a);`, "[1, [1, [1, [..]]]]"}, {`print(undefined, NaN, Infinity);`, "undefined NaN Infinity"},
	})
	// Very many elements of arrays in arrays take as many steps.
	m, v, end := run(t, `let a = []; a.length = 10000; let b = a.map(() => 1), c = []; for (let i = 0; i < 5000; i++) c.push(b); print(c);`, wide, api.Script{})
	if got := outcome(m, v, end); got != " ! end 3" {
		t.Errorf("%.100s", got)
	}
}

func TestObject(t *testing.T) {
	checkAll(t, [][2]string{
		{`let o = {}; print(Object(o) === o, new Object(o) === o, Object(), new Object(null), Object(undefined) === undefined);`, "true true [Object] [Object] false"}, {`Object(1);`, hard}, {`new Object("a");`, hard}, {`Object(Symbol());`, hard}, {`Object(false);`, hard},
		{`class A extends Object { constructor() { super(1); } } print(new A() instanceof A);`, "true"},
		{`print(Object.keys({b: 1, 2: 2, a: 3, 0: 4, [Symbol()]: 5}), Object.keys([7, , 8]), Object.keys(print), Object.keys(Object.create({a: 1})));`, "[0, 2, b, a] [0, 2] [] []"}, {`print(Object.keys({10000: 1, 9999: 2, "01": 3}));`, "[9999, 10000, 01]"},
		{`print(Object.create(null) instanceof Object, Object.getPrototypeOf(Object.create(null)));`, "false null"}, {`Object.create({}, {});`, hard}, {`Object.create({}, null);`, hard}, {`Object.create(1, {});`, " ! TypeError"}, {`print(Object.create({a: 1}, undefined).a);`, "1"},
		{`let o = Object.freeze({}); print(Object.setPrototypeOf(o, Object.prototype) === o); Object.setPrototypeOf(o, null);`, "true ! TypeError"}, {`let a = {}, b = Object.create(a), c = Object.create(b); Object.setPrototypeOf(a, c);`, " ! TypeError"}, {`let a = {}; Object.setPrototypeOf(a, a);`, " ! TypeError"}, {`Object.setPrototypeOf(Object.prototype, {});`, " ! TypeError"}, {`print(Object.setPrototypeOf(Object.prototype, null) === Object.prototype);`, "true"}, {`Object.setPrototypeOf({});`, " ! TypeError"},
	})
	for _, name := range []string{"keys", "getPrototypeOf", "setPrototypeOf", "defineProperty", "freeze", "assign", "getOwnPropertyDescriptor"} {
		for _, arg := range []string{"", "1", "'a'", "null", "Symbol()"} {
			check(t, "Object."+name+"("+arg+");", " ! TypeError")
		}
	}
}

func TestDefineProperty(t *testing.T) {
	const look = ` function look(o, k) { let d = Object.getOwnPropertyDescriptor(o, k); print(d.value, d.writable, d.enumerable, d.configurable); } `
	for s, want := range map[string]string{
		`let o = Object.defineProperty({}, "a", {}); look(o, "a");`: "undefined false false false", `let o = {a: 1}; Object.defineProperty(o, "a", {}); look(o, "a"); Object.defineProperty(o, "a", {enumerable: 0}); look(o, "a"); Object.defineProperty(o, "a", {value: 2, writable: false}); look(o, "a");`: "1 true true true; 1 true false true; 2 false false true",
		`Object.defineProperty({}, "a", {get: print});`: hard, `Object.defineProperty({}, "a", {set: undefined});`: hard, `Object.defineProperty({}, {}, {});`: hard, `Object.defineProperty({}, "a", print); print(1);`: "1", `Object.defineProperty({}, {}, 1);`: hard,
		`Object.defineProperty([], 0, {value: 1});`: hard, `Object.defineProperty([1], 0, {value: 1, writable: true, enumerable: true});`: hard, `Object.defineProperty([1], 0, {});`: hard, `Object.defineProperty([1], "0", {value: 2, writable: true, enumerable: true, configurable: false});`: hard, `Object.defineProperty([], "00", {value: 1});`: hard, `Object.defineProperty([], 10000, {value: 1});`: hard,
		`let a = Object.defineProperty([], 1, {value: 5, writable: true, enumerable: true, configurable: true}); print(a); look(a, 1);`: "[, 5]; 5 true true true", `let a = Object.defineProperty([7], 0, {writable: true, enumerable: true, configurable: true}); print(a); Object.defineProperty(a, 1, {writable: 1, enumerable: 1, configurable: 1}); print(a);`: "[7]; [7, undefined]",
		`let a = [1, 2]; Object.defineProperty(a, "length", {value: 1}); print(a); look(a, "length"); Object.defineProperty(a, "length", {}); Object.defineProperty(a, "length", {writable: true, enumerable: false, configurable: false}); Object.defineProperty(a, "length", {value: -1});`: "[1]; 1 true false false ! TypeError", `Object.defineProperty([], "length", {enumerable: true});`: " ! TypeError",
		`let a = Object.freeze([1]); Object.defineProperty(a, 0, {value: 1, writable: true, enumerable: true, configurable: true});`: " ! TypeError", `Object.defineProperty(Object.freeze([]), "007", {value: 1});`: " ! TypeError", `let o = Object.freeze({a: NaN, b: 0}); Object.defineProperty(o, "a", {value: NaN}); print(1); Object.defineProperty(o, "b", {value: -0});`: "1 ! TypeError",
		`let s = Symbol(); let o = Object.defineProperty({}, s, {value: 1, configurable: true}); look(o, s); Object.defineProperty(o, s, {value: 2}); look(o, s);`: "1 false false true; 2 false false true", `let o = Object.defineProperty({}, "a", {value: 1, writable: true}); Object.defineProperty(o, "a", {value: 2}); look(o, "a"); Object.defineProperty(o, "a", {writable: false}); look(o, "a"); Object.defineProperty(o, "a", {writable: false, value: 2}); Object.defineProperty(o, "a", {value: 3});`: "2 true false false; 2 false false false ! TypeError",
		`let p = Symbol.prototype; print(Object.getOwnPropertyDescriptor(p, "description")); Object.defineProperty(p, "description", {enumerable: true}); print(Symbol("x").description); Object.defineProperty(p, "description", {value: 5}); look(p, "description"); print(Symbol("x").description);`: "undefined; x; 5 false true true; 5", `Object.freeze(Symbol.prototype); Object.defineProperty(Symbol.prototype, "description", {enumerable: false}); print(Symbol("y").description); Object.defineProperty(Symbol.prototype, "description", {value: 1});`: "y ! TypeError", `Object.freeze(Symbol.prototype); Object.defineProperty(Symbol.prototype, "description", {writable: false});`: " ! TypeError",
		`print(Object.getOwnPropertyDescriptor({}, "a"), Object.getOwnPropertyDescriptor([], 0)); Object.getOwnPropertyDescriptor({}, {});`: "undefined undefined" + hard, `let d = Object.getOwnPropertyDescriptor({a: 1}, "a"); print(Object.keys(d));`: "[value, writable, enumerable, configurable]", `Symbol("z").description = 1;`: " ! TypeError",
	} {
		check(t, look+s, want)
	}
}

func TestAssignAndHasOwn(t *testing.T) {
	checkAll(t, [][2]string{
		{`let o = {a: 1}; print(Object.assign(o, {b: 2}, [3], "xy", null, undefined, 4, true, Symbol()) === o, Object.keys(o), o[0], o[1]);`, "true [0, 1, a, b] x y"}, {`Object.assign(Object.freeze({}), {a: 1});`, " ! TypeError"}, {`let a = []; Object.assign(a, {1: 5}); print(a); Object.assign(a, {"007": 1});`, "[, 5]" + hard}, {`let a = [1]; Object.assign(a, {length: 0}); print(a); Object.assign(a, {length: -1});`, "[] ! TypeError"}, {`print(Object.keys(Object.assign({}, Object.create({a: 1}), new Error("m"))));`, "[]"},
		{`let s = "ab"; for (let i = 0; i < 13; i++) s += s; let o = Object.assign({}, s); print(o[16383], o[16384]); Object.keys(o);`, "b undefined" + hard},
		{`let o = {a: 1, [Symbol.iterator]: 2}; print(o.hasOwnProperty("a"), o.hasOwnProperty(Symbol.iterator), o.hasOwnProperty("b"), o.hasOwnProperty(), [1].hasOwnProperty(0), [, 1].hasOwnProperty(0), "ab".hasOwnProperty(0), "ab".hasOwnProperty(2), "ab".hasOwnProperty("length"), "ab".hasOwnProperty("01"), (1).hasOwnProperty("a"));`, "true true false false true false true false true false false"}, {`({}).hasOwnProperty({});`, hard}, {`let h = ({}).hasOwnProperty; h("a");`, " ! TypeError"}, {`let h = ({}).hasOwnProperty; h({});`, hard},
	})
}

func TestPrimitives(t *testing.T) {
	checkAll(t, [][2]string{
		{`print(String(), String(1), String(null), String(Symbol("a\n")), String(undefined), String(true)); String({});`, " 1 null Symbol(a\\\\u000A) undefined true" + hard}, {`new String("a");`, hard}, {`new Number(1);`, hard}, {`new Boolean(1);`, hard}, {`class S extends String {} new S();`, hard}, {`print(Number(), Number(null), Number(true), Number(undefined), Number(-0) === 0); Number("1");`, "0 0 1 NaN true" + hard}, {`Number({});`, hard}, {`Number(Symbol());`, " ! TypeError"}, {`print(Boolean(), Boolean("0"), Boolean(0), Boolean({}), Boolean(Symbol()));`, "false true false true true"},
		{`print("aé😀".charCodeAt(1), "a".charCodeAt(), "a".charCodeAt(1), "a".charCodeAt(-1), "a".charCodeAt(Infinity), "a".charCodeAt(NaN), "😀".charCodeAt(1));`, "233 97 NaN NaN NaN 97 56832"}, {`"a".charCodeAt("0");`, hard}, {`"a".charCodeAt(Symbol());`, " ! TypeError"}, {`let c = "a".charCodeAt; c();`, " ! TypeError"}, {`let f = "a".charCodeAt; print(f.call(12, 1), f.call(true)); f.call({});`, "50 116" + hard}, {`"a".charCodeAt.call(Symbol());`, " ! TypeError"}, {`print(...""[Symbol.iterator].call(12), [..."a😀"].length); ""[Symbol.iterator].call(null);`, "1 2 2 ! TypeError"}, {`""[Symbol.iterator].call({});`, hard},
		{`print(Symbol("d").description, Symbol().description, Symbol(undefined).description, Symbol("").description === "", Symbol(1).description, typeof Symbol.iterator);`, "d undefined undefined true 1 symbol"}, {`new Symbol();`, " ! TypeError"}, {`Symbol({});`, hard}, {`Symbol(Symbol());`, " ! TypeError"}, {`Symbol.prototype.description;`, " ! TypeError"}, {`Symbol.iterator = 1;`, " ! TypeError"}, {`delete Symbol.iterator;`, " ! TypeError"}, {`class S extends Symbol {} new S();`, " ! TypeError"},
	})
}

func TestErrors(t *testing.T) {
	checkAll(t, [][2]string{
		{`print(new TypeError("x"), TypeError("y"), new Error(), new RangeError(5), new ReferenceError(null), new Error(undefined).hasOwnProperty("message"), new Error("").hasOwnProperty("message"), Object.keys(new Error("a")));`, "TypeError: x TypeError: y Error RangeError: 5 ReferenceError: null false true []"}, {`throw new TypeError("x");`, " ! TypeError: x"}, {`new Error({});`, hard}, {`Error(Symbol());`, " ! TypeError"},
		{`class E extends RangeError {} let e = new E("m"); print(e, e instanceof E, e instanceof RangeError, e instanceof Error, e instanceof TypeError); e.name = "E"; print(e, e.toString()); throw e;`, "RangeError: m true true true false; E: m E: m ! E: m"},
		{`let s = Error.prototype.toString; print(s.call({}), s.call({name: "", message: "m"}), s.call({name: "n"}), s.call({message: "m"}), s.call({name: 1, message: null}), s.call({name: "", message: ""}) === "", s.call(() => 1)); s.call("a");`, "Error m n Error: m 1: null true  ! TypeError"}, {`Error.prototype.toString.call({name: {}});`, hard}, {`Error.prototype.toString.call({message: Symbol()});`, " ! TypeError"}, {`let s = "x"; for (let i = 0; i < 16; i++) s += s; Error.prototype.toString.call({name: s, message: "m"});`, hard}, {`print(new Error("a\nb").toString() === "Error: a\nb");`, "true"},
		{`print(Error.prototype.message === "", TypeError.prototype.name, Object.getPrototypeOf(RangeError) === Error, Object.getPrototypeOf(RangeError.prototype) === Error.prototype, Object.getPrototypeOf(Error.prototype) === Object.prototype, TypeError.prototype.hasOwnProperty("toString"));`, "true TypeError true true true false"}, {`class E extends TypeError { constructor() { super("in"); } } E.prototype = 1;`, " ! TypeError"},
	})
}

func TestFunctions(t *testing.T) {
	checkAll(t, [][2]string{
		{`function f(...a) { return [this, a]; } print(f.call(1, 2), f.call(), f.apply(1, [2, , 3]), f.apply(1), f.apply(1, null), f.bind(1, 2)(3), f.bind()(), f.bind(1).bind(2, 3).call(4, 5));`, "[1, [2]] [undefined, []] [1, [2, undefined, 3]] [1, []] [1, []] [1, [2, 3]] [undefined, []] [1, [3, 5]]"}, {`print.apply(1, {});`, hard}, {`print.apply(1, 2);`, " ! TypeError"}, {`print.apply(1, "ab");`, " ! TypeError"}, {`print.call.call(1);`, " ! TypeError"}, {`print.bind.call({});`, " ! TypeError"}, {`print.apply.call(undefined);`, " ! TypeError"},
		{`let a = []; a.length = 1001; print.apply(1, a);`, hard}, {`let a = []; a.length = 600; let f = print.bind(1, ...a); f(...a);`, hard}, {`function f(a, b, c) {} print(f.bind(1, 2).length, f.bind(1, 2, 3, 4, 5).length, f.bind().name, f.bind().bind().name, (class A {}).bind().name, f.bind(1).hasOwnProperty("prototype"));`, "2 0 bound f bound bound f bound A false"},
		{`class A { constructor(...a) { this.a = a; } } let B = A.bind(0, 1); let b = new B(2); print(b.a, b instanceof A, b instanceof B, typeof B); B();`, "[1, 2] true true function ! TypeError"}, {`new (print.bind())();`, " ! TypeError"}, {`class A {} let B = A.bind(); B.prototype = A.prototype; class C extends B {} print(new C() instanceof C);`, "true"}, {`print(1 instanceof (() => 1).bind());`, "false"}, {`({}) instanceof (() => 1).bind();`, " ! TypeError"},
		{`let f = (a, b) => 1; print(f.bind(1, 2, 3).length, f.bind(1, 2, 3, 4).length); delete f.length; print(f.bind().length); Object.setPrototypeOf(f, {length: 7, bind: f.bind}); print(f.bind().length); new (print.bind())();`, "0 0; 0; 0 ! TypeError"}, {`let f = Object.defineProperty(() => 1, "name", {value: 5}); print(f.bind().name === "bound ", f); let g = Object.defineProperty(() => 1, "length", {value: Infinity}); print(g.bind(1).length); let h = Object.defineProperty(() => 1, "length", {value: -Infinity}); print(h.bind(1).length); delete g.length; print(g.bind().length);`, "true function 5; Infinity; 0; 0"},
		{`function* g() { let x = yield 1; print(x); try { yield 2; } finally { print("f"); } } let i = g(); print(i.next(9).value, i.next(8).value, i.return(7).value, i.next().done, i[Symbol.iterator]() === i, i);`, "8; f; 1 2 7 true true [Generator]"}, {`function* g() { yield 1; } g().throw(new Error("t"));`, " ! Error: t"}, {`let n = (function* () {})().next; n();`, " ! TypeError"}, {`let n = (function* () {})(); n.return.call({});`, " ! TypeError"},
	})
}

func TestWorld(t *testing.T) {
	m := world(wide, api.Script{})
	values := m.Env(m.World).Vals[1:]
	l := strings.Fields(basic.Names)
	if strings.Join(l, " ") != "undefined NaN Infinity print Object String Symbol Error TypeError ReferenceError RangeError Number Boolean" || basic.First != 100 || basic.Last != 149 || len(values) != len(l) {
		t.Fatalf("%d values for the names %v", len(values), l)
	}
	lengths := map[string]int{"print": 0, "Object": 1, "String": 1, "Symbol": 0, "Error": 1, "TypeError": 1, "ReferenceError": 1, "RangeError": 1, "Number": 1, "Boolean": 1}
	for i, name := range l[3:] {
		checkFunction(t, m, values[3+i], name, lengths[name])
	}
	statics := map[string]int{"keys": 1, "getPrototypeOf": 1, "setPrototypeOf": 2, "create": 2, "defineProperty": 3, "freeze": 1, "assign": 2, "getOwnPropertyDescriptor": 2}
	for name, n := range statics {
		checkMethod(t, m, values[4], name, n)
	}
	for proto, methods := range map[int]string{vm.ObjectProto: "hasOwnProperty1", vm.StringProto: "charCodeAt1", vm.ErrorProto: "toString0", vm.FunctionProto: "call1 apply2 bind1", vm.GeneratorProto: "next1 return1 throw1"} {
		for _, w := range strings.Fields(methods) {
			checkMethod(t, m, value.Object(m.Protos[proto]), w[:len(w)-1], int(w[len(w)-1]-'0'))
		}
	}
	for _, proto := range []int{vm.StringProto, vm.IteratorProto} {
		f, flags, ok := m.Obj(m.Protos[proto]).Own(m.Iterator)
		if !ok || flags != heap.Hidden || m.Maker(f) {
			t.Errorf("the iterator of %d: %v, %d", proto, f, flags)
		}
		checkFunction(t, m, f, "[Symbol.iterator]", 0)
	}
	get, flags, _ := m.Obj(m.Protos[vm.SymbolProto]).Own(text.Val("description"))
	if flags != heap.Getter|heap.Configurable || m.Maker(get) {
		t.Errorf("the flags of description are %d", flags)
	}
	checkFunction(t, m, get, "get description", 0)
	if v, flags, _ := m.Of(values[6]).Own(text.Val("iterator")); v != m.Iterator || flags != 0 {
		t.Errorf("Symbol.iterator is %v, %d", v, flags)
	}
}

func checkFunction(t *testing.T, m *vm.Machine, f api.Val, name string, n int) {
	t.Helper()
	length, _ := m.Member(f, "length")
	own, _ := m.Member(f, "name")
	if length != whole(n) || own != text.Val(name) {
		t.Errorf("%s: length %v, name %v", name, length, own)
	}
}

func checkMethod(t *testing.T, m *vm.Machine, of api.Val, name string, n int) {
	t.Helper()
	f, flags, ok := m.Of(of).Own(text.Val(name))
	if !ok || flags != heap.Hidden || m.Maker(f) {
		t.Errorf("%s: flags %d, a constructor: %v", name, flags, m.Maker(f))
	}
	checkFunction(t, m, f, name, n)
}

// P0: nothing panics, whatever is asked of it.
func TestStrangeCalls(t *testing.T) {
	for id := basic.First - 1; id <= basic.Last+1; id++ {
		for i := range 7 {
			m := world(wide, api.Script{})
			f := m.Env(m.World).Vals[5]
			args := []api.Val{{}, m.Iterator, m.Array([]api.Val{whole(1)}), m.Object(), text.Val("ab"), whole(-1), f}
			basic.Do(m, id, vm.Call{This: args[i], Args: args[:i]})
			basic.Do(m, id, vm.Call{This: args[6], Args: args[i:], Fn: m.Of(f)})
			basic.Do(m, id, vm.Call{Args: args[i:], Fn: m.Of(f), Target: args[6]})
		}
		basic.Do(nil, id, vm.Call{})
	}
	if basic.World(nil) != nil {
		t.Error("nil has a world")
	}
}
