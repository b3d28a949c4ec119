package heap

import (
	"math"
	"slices"
	"strings"
	"testing"

	"ossuary/api"
	"ossuary/arena"
	"ossuary/otable"
	"ossuary/text"
	"ossuary/value"
)

var (
	none   = api.Val{}
	length = text.Val("length")
	empty  = api.Val{K: api.Empty}
)

func whole(n int) api.Val { return api.Val{K: api.Int, N: int64(n)} }

func str(s string) api.Val { return text.Val(s) }

// held lists what a body enumerates.
func held(each func(yield func(int) bool)) []int {
	var l []int
	for r := range each {
		l = append(l, r)
	}
	slices.Sort(l)
	return l
}

func checkOwn(t *testing.T, o *Obj, k string, v api.Val, flags int, ok bool) {
	t.Helper()
	if gotV, gotF, gotOK := o.Own(str(k)); gotV != v || gotF != flags || gotOK != ok {
		t.Errorf("Own(%s) = %v, %d, %v, not %v, %d, %v", k, gotV, gotF, gotOK, v, flags, ok)
	}
}

func keysOf(o *Obj) string {
	var l []string
	for _, k := range o.Keys() {
		if k.K == api.Sym {
			l = append(l, "symbol")
		} else {
			l = append(l, text.Go(k.S))
		}
	}
	return strings.Join(l, " ")
}

func array(h *Heap, l ...api.Val) *Obj {
	_, o := h.Make(Array, 0)
	o.Elems = l
	return o
}

func TestCells(t *testing.T) {
	h := New()
	r, o := h.Make(Map, 7)
	if r != 1 || o == nil || o.Class != Map || o.Proto != 7 || len(o.Keys()) != 0 || h.Obj(r) != o || h.Of(value.Object(r)) != o {
		t.Errorf("Make = %d, %v", r, o)
	}
	e := h.Scope(2, 5)
	if env := h.Env(e); e != 2 || env == nil || !slices.Equal(env.Vals, []api.Val{empty, empty}) || env.Up != 5 {
		t.Errorf("Scope = %d, %v", e, env)
	}
	s := h.Symbol(str("x"))
	if s != value.Symbol(3) {
		t.Errorf("Symbol = %v", s)
	}
	if m, ok := h.Get(3).(*Mark); !ok || m.Name != str("x") {
		t.Errorf("the symbol's cell is %v", m)
	}
	for _, r := range []int{0, -1, 2, 3, 4, math.MaxInt} {
		if h.Obj(r) != nil || h.Of(value.Object(r)) != nil {
			t.Errorf("Obj(%d) isn't nil", r)
		}
	}
	for _, r := range []int{0, -1, 1, 3, 4, math.MinInt} {
		if h.Env(r) != nil {
			t.Errorf("Env(%d) isn't nil", r)
		}
	}
	for _, v := range []api.Val{none, whole(1), s, str("1"), value.Symbol(1)} {
		if h.Of(v) != nil {
			t.Errorf("Of(%v) isn't nil", v)
		}
	}
	if env := h.Env(h.Scope(-3, 0)); env == nil || len(env.Vals) != 0 {
		t.Errorf("Scope(-3) = %v", env)
	}
	if h.Scope(math.MaxInt, 0) != 0 {
		t.Error("a scope of so many bindings")
	}
}

func TestFullHeap(t *testing.T) {
	h := New()
	n := &arena.Node{}
	for h.Arena.Make(n) != 0 {
	}
	if r, o := h.Make(Plain, 0); r != 0 || o != nil {
		t.Errorf("Make = %d, %v", r, o)
	}
	if h.Scope(1, 0) != 0 || h.Symbol(none) != none {
		t.Error("a cell in a full heap")
	}
}

func TestWhatIsReferenced(t *testing.T) {
	inside := &arena.Node{To: []int{31, 32}}
	o := &Obj{
		Proto: 1, Env: 2, Home: 3, Elems: []api.Val{value.Object(4), whole(50), value.Symbol(5), empty}, Slots: []api.Val{value.Object(6), str("x")},
		Props: otable.New(), Table: otable.New(), Weak: otable.New(), Faint: []int{60, 61}, Inside: inside,
	}
	o.Props.Put(value.Symbol(7), value.Object(8), All)
	o.Props.Put(str("a"), value.Symbol(9), 0)
	o.Table.Put(value.Object(10), value.Object(11), 0)
	o.Weak.Put(value.Object(12), value.Object(13), 0)
	o.Weak.Put(value.Object(14), whole(1), 0)
	if got := held(o.Each); !slices.Equal(got, []int{1, 2, 3, 4, 5, 6, 7, 8, 9, 10, 11, 31, 32}) {
		t.Errorf("Each of an object: %v", got)
	}
	var pairs [][2]int
	for k, v := range o.Pairs {
		pairs = append(pairs, [2]int{k, v})
	}
	if !slices.Equal(pairs, [][2]int{{12, 13}, {14, 0}}) {
		t.Errorf("Pairs = %v", pairs)
	}
	for stop := range 13 {
		n := 0
		o.Each(func(int) bool { n++; return n <= stop })
		if n != stop+1 {
			t.Errorf("Each is left after %d calls, not %d", n, stop+1)
		}
	}
	o.Pairs(func(int, int) bool { return false })
	if got := held((&Obj{}).Each); got != nil {
		t.Errorf("Each of an empty object: %v", got)
	}
	env := &Env{Vals: []api.Val{value.Object(1), empty, value.Symbol(2), none}, Up: 3}
	if got := held(env.Each); !slices.Equal(got, []int{1, 2, 3}) {
		t.Errorf("Each of an environment: %v", got)
	}
	calls := 0
	env.Each(func(int) bool { calls++; return false })
	if got := held((&Mark{Name: value.Symbol(4)}).Each); calls != 1 || !slices.Equal(got, []int{4}) {
		t.Errorf("Each of a symbol: %v, %d calls", got, calls)
	}
	if got := held((&Mark{Name: str("a")}).Each); got != nil {
		t.Errorf("Each of a symbol: %v", got)
	}
}

func TestWeakParts(t *testing.T) {
	dead := func(r int) bool { return r >= 10 }
	o := &Obj{Weak: otable.New(), Faint: []int{1, 10, 11, 12, 0, -1, 3}}
	for i := range 20 {
		o.Weak.Put(value.Object(i), whole(i), 0)
	}
	o.Drop(dead)
	o.Clear(dead)
	if _, _, ok := o.Weak.Get(value.Object(9)); o.Weak.Len() != 10 || !ok || !slices.Equal(o.Faint, []int{1, 0, 0, 0, 0, -1, 3}) {
		t.Errorf("%d pairs, Faint %v", o.Weak.Len(), o.Faint)
	}
	reg := &Obj{Class: Registry, Faint: []int{10, 11, 2, 12, 13, 3, 4, 5, 0, 14, -1, 15}}
	reg.Clear(dead)
	if !slices.Equal(reg.Faint, []int{-1, 0, 2, 0, -1, 3, 4, 5, 0, 0, -1, 0}) {
		t.Errorf("Faint of a registry: %v", reg.Faint)
	}
	tab := otable.New()
	walker := &Obj{Cursor: tab.Cursor()}
	walker.Gone()
	(&Obj{}).Gone()
	(&Obj{}).Drop(dead)
	(&Obj{}).Clear(dead)
	if walker.Cursor.Open() || tab.Storage() != 0 {
		t.Error("the cursor of an object that is gone is open")
	}
}

// What a collection makes of objects with weak parts.
func TestCollections(t *testing.T) {
	h := New()
	keep, o := h.Make(WeakMap, 0)
	key, _ := h.Make(Plain, 0)
	val, _ := h.Make(Plain, 0)
	o.Weak = otable.New()
	o.Weak.Put(value.Object(key), value.Object(val), 0)
	o.Faint = []int{val}
	h.Push(keep)
	h.Push(key)
	if got := h.Collect(nil); len(got) != 0 || o.Faint[0] != val {
		t.Errorf("Collect = %v, Faint %v", got, o.Faint)
	}
	h.Pop(1)
	if got := h.Collect(nil); !slices.Equal(got, []int{key, val}) || o.Weak.Len() != 0 || o.Faint[0] != 0 {
		t.Errorf("Collect = %v, Faint %v", got, o.Faint)
	}
}

func TestProperties(t *testing.T) {
	h := New()
	_, o := h.Make(Plain, 0)
	sym := h.Symbol(none)
	checkOwn(t, o, "a", none, 0, false)
	if !o.Define(str("a"), whole(1), All) || !o.Define(str("b"), whole(2), 0) || !o.Define(sym, whole(3), Hidden) || !o.Define(str("c"), whole(4), Writable|Enumerable) || !o.Define(str("d"), whole(5), Getter|Configurable) {
		t.Error("Define")
	}
	checkOwn(t, o, "a", whole(1), All, true)
	checkOwn(t, o, "b", whole(2), 0, true)
	if v, f, ok := o.Own(sym); v != whole(3) || f != Hidden || !ok {
		t.Errorf("Own = %v, %d, %v", v, f, ok)
	}
	for _, c := range []struct {
		k     string
		flags int
		ok    bool
	}{
		{"a", 0, true}, {"b", 0, false}, {"b", Writable, false}, {"c", Enumerable | Configurable | Writable, false}, {"c", Writable, false}, {"c", Writable | Enumerable | Getter, false},
		{"c", Writable | Enumerable, true}, {"c", Enumerable, true}, {"c", Enumerable, false}, {"d", All, true}, {"d", 0, true}, {"d", 0, false},
	} {
		_, before, _ := o.Own(str(c.k))
		if got := o.Define(str(c.k), whole(9), c.flags); got != c.ok {
			t.Errorf("Define(%s) from %d to %d: %v", c.k, before, c.flags, got)
		}
		_, after, _ := o.Own(str(c.k))
		if c.ok && after != c.flags || !c.ok && after != before {
			t.Errorf("Define(%s) from %d to %d: the flags are %d", c.k, before, c.flags, after)
		}
	}
	checkOwn(t, o, "b", whole(2), 0, true)
	checkOwn(t, o, "c", whole(9), Enumerable, true)
	checkOwn(t, o, "length", none, 0, false)
}

func TestDelete(t *testing.T) {
	h := New()
	_, o := h.Make(Plain, 0)
	o.Define(str("a"), whole(1), Configurable)
	o.Define(str("b"), whole(2), Writable|Enumerable)
	if !o.Delete(str("a")) || !o.Delete(str("a")) || !o.Delete(str("x")) || o.Delete(str("b")) {
		t.Error("Delete")
	}
	checkOwn(t, o, "a", none, 0, false)
	checkOwn(t, o, "b", whole(2), Writable|Enumerable, true)
	arr := array(h, whole(1), whole(2))
	if !arr.Delete(str("1")) || !arr.Delete(str("7")) || arr.Delete(length) || len(arr.Elems) != 2 || arr.Elems[1] != empty {
		t.Errorf("Delete of elements: %v", arr.Elems)
	}
	checkOwn(t, arr, "1", none, 0, false)
	arr.Freeze()
	if arr.Delete(str("0")) || !arr.Delete(str("1")) {
		t.Error("Delete of a frozen array's elements")
	}
}

func TestArrays(t *testing.T) {
	h := New()
	o := array(h, whole(1), empty, whole(3))
	checkOwn(t, o, "0", whole(1), All, true)
	checkOwn(t, o, "1", none, 0, false)
	checkOwn(t, o, "3", none, 0, false)
	checkOwn(t, o, "00", none, 0, false)
	checkOwn(t, o, "length", whole(3), Writable, true)
	for _, flags := range []int{0, Hidden, All | Getter, Writable | Enumerable} {
		if o.Define(str("0"), whole(9), flags) || o.Define(str("1"), whole(9), flags) {
			t.Errorf("Define of an element with flags %d", flags)
		}
	}
	one := array(h)
	if !one.Define(str("0"), whole(5), All) || !one.Define(str("1"), whole(6), All) || !slices.Equal(one.Elems, []api.Val{whole(5), whole(6)}) {
		t.Errorf("elements %v", one.Elems)
	}
	if !o.Define(str("5"), whole(6), All) || !o.Define(str("0"), whole(7), All) {
		t.Error("Define of elements")
	}
	if !slices.Equal(o.Elems, []api.Val{whole(7), empty, whole(3), empty, empty, whole(6)}) {
		t.Errorf("elements %v", o.Elems)
	}
	if !o.Define(str("9999"), whole(1), All) || len(o.Elems) != api.MaxArray || o.Elems[9998] != empty {
		t.Errorf("%d elements", len(o.Elems))
	}
	if !o.Define(str("10000"), whole(1), 0) || len(o.Elems) != api.MaxArray {
		t.Error("a key that isn't an index")
	}
	checkOwn(t, o, "10000", whole(1), 0, true)
	if _, _, ok := o.Own(value.Symbol(0)); ok {
		t.Error("a symbol is an element")
	}
}

func TestLength(t *testing.T) {
	h := New()
	o := array(h, whole(1), whole(2), whole(3))
	for _, v := range []api.Val{whole(-1), whole(api.MaxArray + 1), none, str("1"), {K: api.NegZero}, {K: api.NaN}, empty} {
		if o.Define(length, v, Writable) {
			t.Errorf("the length becomes %v", v)
		}
	}
	for _, flags := range []int{0, All, Writable | Enumerable, Writable | Getter, Hidden} {
		if o.Define(length, whole(1), flags) {
			t.Errorf("the length has flags %d", flags)
		}
	}
	if !o.Define(length, whole(1), Writable) || !slices.Equal(o.Elems, []api.Val{whole(1)}) {
		t.Errorf("elements %v", o.Elems)
	}
	if !o.Define(length, whole(3), Writable) || !slices.Equal(o.Elems, []api.Val{whole(1), empty, empty}) {
		t.Errorf("elements %v", o.Elems)
	}
	if !o.Define(length, whole(api.MaxArray), Writable) || len(o.Elems) != api.MaxArray || !o.Define(length, whole(0), Writable) || len(o.Elems) != 0 {
		t.Error("the greatest and the least length")
	}
	checkOwn(t, o, "length", whole(0), Writable, true)
	_, plain := h.Make(Plain, 0)
	if !plain.Define(length, str("x"), All) || !plain.Define(str("3"), whole(1), 0) || len(plain.Elems) != 0 {
		t.Error("length and indices of what isn't an array")
	}
	checkOwn(t, plain, "3", whole(1), 0, true)
}

func TestFindAndPut(t *testing.T) {
	h := New()
	top, topO := h.Make(Plain, 0)
	mid, midO := h.Make(Plain, top)
	low, lowO := h.Make(Plain, mid)
	for i, k := range []string{"a", "fixed", "getter", "own"} {
		topO.Define(str(k), whole(i), []int{All, Enumerable, Writable | Getter, All}[i])
	}
	midO.Define(str("a"), whole(10), Hidden)
	lowO.Define(str("own"), whole(20), Writable)
	lowO.Define(str("stays"), whole(21), Configurable)
	lowO.Define(str("got"), whole(22), All|Getter)
	for _, c := range []struct {
		r, v, flags int
		k           string
		ok          bool
	}{
		{low, 10, Hidden, "a", true}, {top, 0, All, "a", true}, {low, 1, Enumerable, "fixed", true}, {low, 20, Writable, "own", true}, {mid, 3, All, "own", true}, {low, 2, Writable | Getter, "getter", true},
	} {
		if v, f, ok := h.Find(c.r, str(c.k)); v != whole(c.v) || f != c.flags || ok != c.ok {
			t.Errorf("Find(%d, %s) = %v, %d, %v", c.r, c.k, v, f, ok)
		}
	}
	for _, r := range []int{low, 0, -1, 99} {
		if v, f, ok := h.Find(r, str("x")); v != none || f != 0 || ok {
			t.Errorf("Find(%d, x) = %v, %d, %v", r, v, f, ok)
		}
	}
	for k, ok := range map[string]bool{"a": true, "fixed": false, "getter": false, "own": true, "stays": false, "got": false, "new": true} {
		if got := h.Put(low, str(k), whole(30)); got != ok {
			t.Errorf("Put(%s) = %v", k, got)
		}
	}
	checkOwn(t, lowO, "a", whole(30), All, true)
	checkOwn(t, lowO, "own", whole(30), Writable, true)
	checkOwn(t, lowO, "new", whole(30), All, true)
	checkOwn(t, lowO, "fixed", none, 0, false)
	checkOwn(t, lowO, "stays", whole(21), Configurable, true)
	checkOwn(t, midO, "a", whole(10), Hidden, true)
	if h.Put(0, str("a"), none) || h.Put(99, str("a"), none) || h.Put(h.Scope(1, 0), str("a"), none) {
		t.Error("Put of no object")
	}
}

func TestPutOfArrays(t *testing.T) {
	h := New()
	r, o := h.Make(Array, 0)
	if !h.Put(r, str("1"), whole(5)) || !h.Put(r, str("1"), whole(6)) || !slices.Equal(o.Elems, []api.Val{empty, whole(6)}) {
		t.Errorf("elements %v", o.Elems)
	}
	if !h.Put(r, length, whole(1)) || h.Put(r, length, whole(-1)) || h.Put(r, length, str("1")) || len(o.Elems) != 1 {
		t.Errorf("elements %v", o.Elems)
	}
	proto, p := h.Make(Plain, 0)
	p.Define(str("0"), whole(1), Enumerable)
	o.Proto = proto
	if h.Put(r, str("0"), whole(1)) {
		t.Error("Put of a hole whose prototype isn't writable")
	}
}

func TestKeys(t *testing.T) {
	h := New()
	sym := h.Symbol(none)
	_, o := h.Make(Plain, 0)
	for _, k := range []string{"b", "10", "a", "2", "01", "9999", "10000", "-1", "0", "length"} {
		o.Define(str(k), none, Hidden)
	}
	o.Define(sym, none, 0)
	o.Define(str("z"), none, 0)
	o.Delete(str("a"))
	o.Define(str("a"), none, 0)
	if got := keysOf(o); got != "0 2 10 9999 b 01 10000 -1 length z a symbol" {
		t.Errorf("Keys = %s", got)
	}
	arr := array(h, none, none)
	if got := keysOf(arr); got != "0 1 length" {
		t.Errorf("Keys = %s", got)
	}
	arr.Define(sym, none, 0)
	arr.Define(str("x"), none, 0)
	arr.Define(str("11"), none, All)
	arr.Delete(str("0"))
	if got := keysOf(arr); got != "1 11 x length symbol" {
		t.Errorf("Keys = %s", got)
	}
	if got := keysOf(&Obj{Class: Array}); got != "length" {
		t.Errorf("Keys = %s", got)
	}
	if got := keysOf(&Obj{Class: Plain, Elems: []api.Val{none}}); got != "" {
		t.Errorf("Keys = %s", got)
	}
}

func TestFreeze(t *testing.T) {
	h := New()
	_, o := h.Make(Plain, 0)
	for i, k := range []string{"a", "b", "c"} {
		o.Define(str(k), whole(i), []int{All, Getter | Configurable, Writable}[i])
	}
	o.Freeze()
	checkOwn(t, o, "a", whole(0), Enumerable, true)
	checkOwn(t, o, "b", whole(1), Getter, true)
	checkOwn(t, o, "c", whole(2), 0, true)
	if !o.Closed || o.Define(str("a"), whole(0), Enumerable) || o.Define(str("x"), none, All) || o.Delete(str("a")) || keysOf(o) != "a b c" {
		t.Error("a frozen object changes")
	}
	r, arr := h.Make(Array, 0)
	arr.Elems = []api.Val{whole(1), empty}
	arr.Freeze()
	checkOwn(t, arr, "0", whole(1), Enumerable, true)
	checkOwn(t, arr, "length", whole(2), 0, true)
	if h.Put(r, str("0"), none) || h.Put(r, str("1"), none) || h.Put(r, length, whole(2)) || arr.Define(length, whole(2), Writable) || arr.Define(str("0"), whole(1), All) {
		t.Error("a frozen array changes")
	}
	(&Obj{}).Freeze()
}

func TestChain(t *testing.T) {
	h := New()
	a, _ := h.Make(Plain, 0)
	b, _ := h.Make(Plain, a)
	c, _ := h.Make(Plain, b)
	other, _ := h.Make(Plain, 0)
	env := h.Scope(0, 0)
	bad, _ := h.Make(Plain, env)
	for _, x := range []struct {
		r, proto int
		ok       bool
	}{
		{a, a, false}, {a, b, false}, {a, c, false}, {b, c, false}, {c, a, true}, {c, b, true}, {b, other, true}, {a, 0, true}, {a, other, true},
		{a, env, false}, {a, 99, false}, {a, -1, false}, {a, bad, false}, {c, c, false},
	} {
		if got := h.Chain(x.r, x.proto); got != x.ok {
			t.Errorf("Chain(%d, %d) = %v", x.r, x.proto, got)
		}
	}
}

// A circle can't come about by these calls, but all of them end nevertheless.
func TestCircle(t *testing.T) {
	h := New()
	a, o := h.Make(Plain, 0)
	b, _ := h.Make(Plain, a)
	o.Proto = b
	other, _ := h.Make(Plain, 0)
	if _, _, ok := h.Find(a, str("x")); ok || h.Chain(other, a) || !h.Put(a, str("x"), none) {
		t.Error("a circle of prototypes")
	}
}

func TestNil(t *testing.T) {
	var h *Heap
	var o *Obj
	var e *Env
	var m *Mark
	fail := func(int) bool { t.Error("nil references something"); return true }
	o.Each(fail)
	e.Each(fail)
	m.Each(fail)
	o.Pairs(func(int, int) bool { t.Error("nil has a pair"); return true })
	o.Drop(fail)
	o.Clear(fail)
	o.Gone()
	o.Freeze()
	if r, made := h.Make(Plain, 0); r != 0 || made != nil || h.Scope(1, 0) != 0 || h.Symbol(none) != none || h.Obj(1) != nil || h.Env(1) != nil || h.Of(value.Object(1)) != nil {
		t.Error("a nil heap has something")
	}
	if _, _, ok := h.Find(1, none); ok || h.Put(1, none, none) || h.Chain(1, 2) || !h.Chain(1, 0) {
		t.Error("a nil heap has an object")
	}
	if _, f, ok := o.Own(none); f != 0 || ok || o.Define(none, none, 0) || !o.Delete(none) || o.Keys() != nil {
		t.Error("nil has a property")
	}
}

func TestNumbersOfClassesAndFlags(t *testing.T) {
	for i, c := range []int{Plain, Array, Function, Map, Set, Walker, WeakMap, WeakSet, WeakRef, Registry, Generator, Promise, Error} {
		if i != c {
			t.Errorf("the class %d is %d", i, c)
		}
	}
	if Writable != 1 || Enumerable != 2 || Configurable != 4 || Getter != 8 || All != 7 || Hidden != 5 {
		t.Error("the flags")
	}
}
