package show

import (
	"testing"

	"ossuary/api"
	"ossuary/heap"
	"ossuary/text"
	"ossuary/value"
	"ossuary/vm"
)

func whole(n int) api.Val { return api.Val{K: api.Int, N: int64(n)} }

var empty = api.Val{K: api.Empty}

func machine() *vm.Machine {
	return vm.New(nil, api.Bounds{Fuel: 1000, Depth: 10, Cells: 1000}, api.Script{})
}

func made(m *vm.Machine, class int) (api.Val, *heap.Obj) {
	r, o := m.Make(class, 0)
	return value.Object(r), o
}

func check(t *testing.T, m *vm.Machine, v api.Val, want string) {
	t.Helper()
	if got := Show(m, v); got != want {
		t.Errorf("%v is printed as %q, not as %q", v, got, want)
	}
}

func TestPrimitives(t *testing.T) {
	m := machine()
	for want, v := range map[string]api.Val{
		"undefined": {}, "null": {K: api.Null}, "true": value.Truth(true), "false": value.Truth(false), "0": {K: api.NegZero}, "-12": whole(-12), "NaN": {K: api.NaN}, "-Infinity": {K: api.Inf, N: -1},
		"": empty, "aé\\u000A\\\\\\uD800": {K: api.Str, S: text.Of("aé\n\\") + "\xd8\x00"}, "Symbol(it\\\\)": m.Symbol(text.Val("it\\")), "Symbol()": m.Symbol(api.Val{}),
	} {
		check(t, m, v, want)
	}
	check(t, m, m.Symbol(whole(3)), "Symbol()")
	check(t, m, text.Val(""), "")
	check(t, m, m.Symbol(text.Val("")), "Symbol()")
}

func TestArrays(t *testing.T) {
	m := machine()
	check(t, m, m.Array(nil), "[]")
	check(t, m, m.Array([]api.Val{whole(1), m.Array([]api.Val{whole(2)}), text.Val("a")}), "[1, [2], a]")
	check(t, m, m.Array([]api.Val{whole(1), empty, {}, empty}), "[1, , undefined, ]")
	v := m.Array([]api.Val{whole(1)})
	for _, want := range []string{"[1]", "[[1]]", "[[[1]]]", "[[[[..]]]]", "[[[[..]]]]"} {
		check(t, m, v, want)
		v = m.Array([]api.Val{v})
	}
	loop := m.Array([]api.Val{whole(1)})
	m.Of(loop).Elems = append(m.Of(loop).Elems, loop)
	check(t, m, loop, "[1, [1, [1, [..]]]]")
}

func TestFunctions(t *testing.T) {
	m := machine()
	f := m.Native(1, "f", 0, false)
	check(t, m, f, "function f")
	check(t, m, m.Native(1, "", 0, false), "function ")
	check(t, m, m.Array([]api.Val{f}), "[function f]")
	for want, name := range map[string]api.Val{"[Function]": f, "[..]": m.Array(nil), "[Error]": failed(m, "x"), "3": whole(3), "[Object]": m.Object(), "Symbol(s)": m.Symbol(text.Val("s")), "a\\\\": text.Val("a\\")} {
		m.Own(m.Of(f), "name", name, heap.All)
		check(t, m, f, "function "+want)
	}
	m.Of(f).Delete(text.Val("name"))
	check(t, m, f, "function undefined")
	_, proto := made(m, heap.Plain)
	m.Own(proto, "name", text.Val("inherited"), heap.All)
	check(t, m, f, "function undefined")
}

func failed(m *vm.Machine, message string) api.Val {
	v, _ := m.Type(message)
	return v
}

func TestErrors(t *testing.T) {
	m := machine()
	r, proto := m.Make(heap.Plain, 0)
	m.Own(proto, "name", text.Val("TypeError"), heap.Hidden)
	m.Own(proto, "message", text.Val(""), heap.Hidden)
	m.Protos[vm.TypeProto] = r
	check(t, m, failed(m, "why\n"), "TypeError: why\\u000A")
	check(t, m, failed(m, ""), "TypeError")
	check(t, m, m.Array([]api.Val{failed(m, "x")}), "[TypeError: x]")
	e := failed(m, "x")
	for want, v := range map[string]api.Val{"[..]": m.Array([]api.Val{e}), "[Function]": m.Native(1, "f", 0, false), "[Error]": e, "[Map]": first(made(m, heap.Map)), "undefined": {}, "1": whole(1)} {
		m.Own(m.Of(e), "message", v, heap.All)
		check(t, m, e, "TypeError: "+want)
		m.Own(m.Of(e), "name", v, heap.All)
		check(t, m, e, want+": "+want)
		m.Of(e).Delete(text.Val("name"))
	}
	m.Own(m.Of(e), "message", text.Val("m"), heap.All)
	m.Own(m.Of(e), "name", text.Val(""), heap.All)
	check(t, m, e, ": m")
	v, o := made(m, heap.Plain)
	check(t, m, v, "[Object]")
	if got := Woe(m, v); got != "undefined: undefined" {
		t.Errorf("Woe = %q", got)
	}
	o.Proto = r
	if got := Woe(m, v); got != "TypeError" {
		t.Errorf("Woe = %q", got)
	}
	if got := Woe(m, whole(1)); got != "undefined: undefined" {
		t.Errorf("Woe = %q", got)
	}
}

func first(v api.Val, _ *heap.Obj) api.Val { return v }

func TestOtherObjects(t *testing.T) {
	m := machine()
	for class, want := range map[int]string{
		heap.Plain: "[Object]", heap.Map: "[Map]", heap.Set: "[Set]", heap.Walker: "[Iterator]", heap.WeakMap: "[WeakMap]", heap.WeakSet: "[WeakSet]", heap.WeakRef: "[WeakRef]",
		heap.Registry: "[FinalizationRegistry]", heap.Generator: "[Generator]", heap.Promise: "[Promise]",
	} {
		v, o := made(m, class)
		m.Own(o, "name", text.Val("n"), heap.All)
		check(t, m, v, want)
	}
}

// P0: nothing panics, whatever the machine and the value are.
func TestStrangeValues(t *testing.T) {
	m := machine()
	env := m.Scope(1, 0)
	for k := -1; k < 13; k++ {
		for _, r := range []int64{0, -1, 1, int64(env), 99} {
			v := api.Val{K: k, N: r}
			Show(m, v)
			Woe(m, v)
			Show(nil, v)
			Woe(nil, v)
		}
	}
	if m.Steps != 0 || m.End != 0 {
		t.Errorf("printing takes %d steps", m.Steps)
	}
}
