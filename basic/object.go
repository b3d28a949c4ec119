package basic

import (
	"ossuary/api"
	"ossuary/heap"
	"ossuary/text"
	"ossuary/value"
	"ossuary/vm"
)

func object(m *vm.Machine, c vm.Call) (api.Val, int) {
	if c.Target != (api.Val{}) && m.Of(c.Target) != c.Fn {
		r, _ := m.Make(heap.Plain, m.From(c.Target, vm.ObjectProto))
		return value.Object(r), vm.Fine
	}
	switch v := c.Arg(0); {
	case value.Nullish(v):
		return m.Object(), vm.Fine
	case value.IsObj(v):
		return v, vm.Fine
	}
	return m.Hard()
}

func create(m *vm.Machine, c vm.Call) (api.Val, int) {
	proto := c.Arg(0)
	switch {
	case !value.IsObj(proto) && proto.K != api.Null:
		return m.Type("")
	case c.Arg(1) != (api.Val{}):
		return m.Hard()
	}
	r, _ := m.Make(heap.Plain, value.Ref(proto))
	return value.Object(r), vm.Fine
}

// ofObject is a function of Object that wants an object.
func ofObject(m *vm.Machine, id int, c vm.Call) (api.Val, int) {
	v := c.Arg(0)
	o := m.Of(v)
	if o == nil {
		return m.Type("")
	}
	switch id {
	case idKeys:
		return keys(m, o)
	case idGetProto:
		if o.Proto == 0 {
			return api.Val{K: api.Null}, vm.Fine
		}
		return value.Object(o.Proto), vm.Fine
	case idSetProto:
		return setProto(m, v, c.Arg(1))
	case idDefine:
		return define(m, v, c.Arg(1), c.Arg(2))
	case idFreeze:
		o.Freeze()
		return v, vm.Fine
	case idAssign:
		return assign(m, v, c.Args[1:])
	}
	return describe(m, o, c.Arg(1))
}

func keys(m *vm.Machine, o *heap.Obj) (api.Val, int) {
	var l []api.Val
	for _, k := range o.Keys() {
		if !m.Spend(1) {
			return api.Val{}, vm.Over
		}
		if _, flags, _ := o.Own(k); k.K == api.Str && flags&heap.Enumerable != 0 {
			l = append(l, k)
		}
	}
	return m.Array(l), vm.Fine
}

// setProto changes a prototype; that of the object that all others inherit from stays.
func setProto(m *vm.Machine, v, proto api.Val) (api.Val, int) {
	o, above := m.Of(v), value.Ref(proto)
	switch {
	case !value.IsObj(proto) && proto.K != api.Null:
		return m.Type("")
	case o.Proto == above:
		return v, vm.Fine
	case o.Closed || value.Ref(v) == m.Protos[vm.ObjectProto] || !m.Chain(value.Ref(v), above):
		return m.Type("")
	}
	o.Proto = above
	return v, vm.Fine
}

func assign(m *vm.Machine, to api.Val, sources []api.Val) (api.Val, int) {
	for _, from := range sources {
		if x, end := assignAll(m, to, from); end != vm.Fine {
			return x, end
		}
	}
	return to, vm.Fine
}

func assignAll(m *vm.Machine, to, from api.Val) (api.Val, int) {
	if from.K == api.Str {
		return assignUnits(m, to, from)
	}
	o := m.Of(from)
	for _, k := range o.Keys() {
		if _, flags, _ := o.Own(k); flags&heap.Enumerable == 0 {
			continue
		}
		if x, end := copyPart(m, to, from, k); end != vm.Fine {
			return x, end
		}
	}
	return api.Val{}, vm.Fine
}

func copyPart(m *vm.Machine, to, from, k api.Val) (api.Val, int) {
	if !m.Spend(1) {
		return api.Val{}, vm.Over
	}
	x, end := m.GetKey(from, k)
	if end != vm.Fine {
		return x, end
	}
	return m.Put(to, k, x)
}

// assignUnits takes the units themselves, because not all have an index as their key.
func assignUnits(m *vm.Machine, to, from api.Val) (api.Val, int) {
	for i := range text.Len(from.S) {
		if !m.Spend(1) {
			return api.Val{}, vm.Over
		}
		unit := api.Val{K: api.Str, S: text.Sub(from.S, i, i+1)}
		if x, end := m.Put(to, api.Val{K: api.Int, N: int64(i)}, unit); end != vm.Fine {
			return x, end
		}
	}
	return api.Val{}, vm.Fine
}

// flagName names the bit of a flag.
func flagName(bit int) string {
	switch 1 << bit {
	case heap.Writable:
		return "writable"
	case heap.Enumerable:
		return "enumerable"
	}
	return "configurable"
}

const flagBits = 3

func describe(m *vm.Machine, o *heap.Obj, k api.Val) (api.Val, int) {
	key, end := m.Convert(value.Property(k))
	if end != vm.Fine {
		return key, end
	}
	v, flags, ok := o.Own(key)
	if !ok || flags&heap.Getter != 0 {
		return api.Val{}, vm.Fine
	}
	out := m.Object()
	m.Own(m.Of(out), "value", v, heap.All)
	for bit := range flagBits {
		m.Own(m.Of(out), flagName(bit), value.Truth(flags>>bit&1 == 1), heap.All)
	}
	return out, vm.Fine
}

// A descriptor tells what a property becomes; given has the flags that it says something about.
type descriptor struct {
	value    api.Val
	hasValue bool
	given    int
	flags    int
}

func define(m *vm.Machine, v, k, d api.Val) (api.Val, int) {
	key, end := m.Convert(value.Property(k))
	if end != vm.Fine {
		return key, end
	}
	if !value.IsObj(d) {
		return m.Type("")
	}
	want, x, end := read(m, d)
	if end != vm.Fine {
		return x, end
	}
	o := m.Of(v)
	if o.Class == heap.Array && (isForeign(o, key) || key.K == api.Str && text.Index(key.S) >= 0 && want.flags != heap.All) {
		return m.Hard()
	}
	if !apply(o, key, want) {
		return m.Type("")
	}
	return v, vm.Fine
}

// isForeign reports whether a key that an array doesn't have yet consists of digits, but isn't an index.
func isForeign(o *heap.Obj, k api.Val) bool {
	if o.Closed || k.K != api.Str || k.S == "" || text.Index(k.S) >= 0 {
		return false
	}
	for i := range text.Len(k.S) {
		if u := text.At(k.S, i); u < '0' || u > '9' {
			return false
		}
	}
	return true
}

// read reads a descriptor; one with functions isn't supported.
func read(m *vm.Machine, d api.Val) (descriptor, api.Val, int) {
	var out descriptor
	for _, name := range []string{"get", "set"} {
		if _, ok := has(m, d, name); ok {
			x, end := m.Hard()
			return out, x, end
		}
	}
	for bit := range flagBits {
		if x, ok := has(m, d, flagName(bit)); ok {
			out.given |= 1 << bit
			if value.True(x) {
				out.flags |= 1 << bit
			}
		}
	}
	out.value, out.hasValue = has(m, d, "value")
	return out, api.Val{}, vm.Fine
}

func has(m *vm.Machine, d api.Val, name string) (api.Val, bool) {
	_, _, ok := m.Find(value.Ref(d), text.Val(name))
	if !ok {
		return api.Val{}, false
	}
	x, end := m.Member(d, name)
	return x, end == vm.Fine
}

// apply makes a property what a descriptor says; false: that isn't allowed.
func apply(o *heap.Obj, k api.Val, want descriptor) bool {
	old, flags, ok := o.Own(k)
	isData := flags&heap.Getter == 0
	if ok && flags&heap.Configurable == 0 {
		switch {
		case want.flags&heap.Configurable != 0 || want.given&heap.Enumerable != 0 && (want.flags^flags)&heap.Enumerable != 0:
			return false
		case !isData:
			return !want.hasValue && want.given&heap.Writable == 0
		case flags&heap.Writable == 0:
			return want.flags&heap.Writable == 0 && (!want.hasValue || value.Same(want.value, old))
		}
	}
	if ok && !isData && (want.hasValue || want.given&heap.Writable != 0) {
		old, flags = api.Val{}, flags&^heap.Getter
	}
	if want.hasValue {
		old = want.value
	}
	return o.Define(k, old, flags&^want.given|want.flags)
}

// hasOwn is also a method of primitive values, of which only strings have properties of their own.
func hasOwn(m *vm.Machine, c vm.Call) (api.Val, int) {
	k, end := m.Convert(value.Property(c.Arg(0)))
	switch {
	case end != vm.Fine:
		return k, end
	case value.Nullish(c.This):
		return m.Type("")
	case c.This.K == api.Str && k.K == api.Str:
		i := text.Index(k.S)
		return value.Truth(k == text.Val("length") || i >= 0 && i < text.Len(c.This.S)), vm.Fine
	}
	_, _, ok := m.Of(c.This).Own(k)
	return value.Truth(ok), vm.Fine
}
