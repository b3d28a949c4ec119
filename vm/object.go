package vm

import (
	"slices"
	"strings"

	"ossuary/api"
	"ossuary/code"
	"ossuary/heap"
	"ossuary/text"
	"ossuary/value"
)

// A native is what a native function has in place of code; its number is the Kind of the object.
type native struct {
	maker bool
}

// Callable reports whether a value can be called.
func (m *Machine) Callable(v api.Val) bool {
	o := m.object(v)
	return o != nil && o.Class == heap.Function && o.Fn != nil
}

// Maker reports whether a value is a constructor.
func (m *Machine) Maker(v api.Val) bool {
	o := m.object(v)
	if o == nil || o.Class != heap.Function {
		return false
	}
	switch f := o.Fn.(type) {
	case *code.Func:
		return f.Class || !f.Arrow && !f.Method && !f.Generator
	case native:
		return f.maker
	}
	return false
}

// object returns the object of a value, or nil.
func (m *Machine) object(v api.Val) *heap.Obj {
	if m == nil {
		return nil
	}
	return m.Of(v)
}

// Class returns the class of an object, or -1.
func (m *Machine) Class(v api.Val) int {
	if o := m.object(v); o != nil {
		return o.Class
	}
	return -1
}

// Array creates an array; one that is too long ends the run.
func (m *Machine) Array(l []api.Val) api.Val {
	if m == nil {
		return api.Val{}
	}
	if len(l) > api.MaxArray {
		v, _ := m.Hard()
		return v
	}
	r, o := m.create(heap.Array, m.proto(ArrayProto))
	o.Elems = slices.Clone(l)
	return value.Object(r)
}

// Object creates an object without properties.
func (m *Machine) Object() api.Val {
	if m == nil {
		return api.Val{}
	}
	r, _ := m.create(heap.Plain, m.proto(ObjectProto))
	return value.Object(r)
}

// Result creates the result of an iterator.
func (m *Machine) Result(v api.Val, done bool) api.Val {
	if m == nil {
		return api.Val{}
	}
	r, o := m.create(heap.Plain, m.proto(ObjectProto))
	m.Own(o, "value", v, heap.All)
	m.Own(o, "done", value.Truth(done), heap.All)
	return value.Object(r)
}

// function creates a function with the properties that all functions have.
func (m *Machine) function(name string, n int) (int, *heap.Obj) {
	r, o := m.create(heap.Function, m.proto(FunctionProto))
	m.Own(o, "length", api.Val{K: api.Int, N: int64(n)}, heap.Configurable)
	m.Own(o, "name", text.Val(name), heap.Configurable)
	return r, o
}

// Closure creates a function of code.
func (m *Machine) Closure(f *code.Func, env int) api.Val {
	if m == nil || f == nil {
		return api.Val{}
	}
	r, o := m.function(f.Name, f.Params)
	o.Fn, o.Env = f, env
	v := value.Object(r)
	switch {
	case f.Generator:
		proto, _ := m.create(heap.Plain, m.proto(GeneratorProto))
		m.Own(o, "prototype", value.Object(proto), heap.Writable)
	case !f.Class && !f.Arrow && !f.Method:
		proto, p := m.create(heap.Plain, m.proto(ObjectProto))
		m.Own(p, "constructor", v, heap.Hidden)
		m.Own(o, "prototype", value.Object(proto), heap.Writable)
	}
	return v
}

// Native creates a native function.
func (m *Machine) Native(id int, name string, n int, maker bool) api.Val {
	if m == nil {
		return api.Val{}
	}
	r, o := m.function(name, n)
	o.Fn, o.Kind = native{maker}, id
	return value.Object(r)
}

// Own defines a property of an object.
func (m *Machine) Own(o *heap.Obj, name string, v api.Val, flags int) {
	o.Define(text.Val(name), v, flags)
}

// Method adds a native function to a prototype.
func (m *Machine) Method(proto int, name string, id, n int) {
	if m != nil {
		m.Own(m.Obj(m.proto(proto)), name, m.Native(id, name, n, false), heap.Hidden)
	}
}

// Methods adds native functions with consecutive ids; each word is a name and a number of arguments.
func (m *Machine) Methods(proto, first int, names string) {
	for i, word := range strings.Fields(names) {
		last := len(word) - 1
		m.Method(proto, word[:last], first+i, int(word[last]-'0'))
	}
}

// Constructor creates a native constructor with its prototype.
func (m *Machine) Constructor(proto int, name string, id, n int) api.Val {
	if m == nil {
		return api.Val{}
	}
	f := m.Native(id, name, n, true)
	r := m.proto(proto)
	m.Own(m.Of(f), "prototype", value.Object(r), 0)
	m.Own(m.Obj(r), "constructor", f, heap.Hidden)
	return f
}

// Static adds a native function to a constructor.
func (m *Machine) Static(f api.Val, name string, id, n int) {
	if m != nil {
		m.Own(m.Of(f), name, m.Native(id, name, n, false), heap.Hidden)
	}
}

// GetKey returns a value's property of a key that has been converted.
func (m *Machine) GetKey(v, k api.Val) (api.Val, int) {
	if m == nil {
		return api.Val{}, Over
	}
	switch v.K {
	case api.Obj:
		return m.getFrom(value.Ref(v), k, v)
	case api.Str:
		if part, ok := stringPart(v, k); ok {
			return part, Fine
		}
		return m.getFrom(m.proto(StringProto), k, v)
	case api.Sym:
		return m.getFrom(m.proto(SymbolProto), k, v)
	case api.Bool:
		return m.getFrom(m.proto(BooleanProto), k, v)
	case api.Int, api.NaN, api.Inf, api.NegZero:
		return m.getFrom(m.proto(NumberProto), k, v)
	}
	return m.Type("")
}

// getFrom reads a property in a prototype chain, for a value that may be another one.
func (m *Machine) getFrom(r int, k, receiver api.Val) (api.Val, int) {
	v, flags, _ := m.Find(r, k)
	if flags&heap.Getter != 0 {
		return m.Call(v, receiver, nil)
	}
	return v, Fine
}

// stringPart returns what a string has itself: its length, and something at each index.
func stringPart(s, k api.Val) (api.Val, bool) {
	if k.K != api.Str {
		return api.Val{}, false
	}
	if i := text.Index(k.S); i >= 0 {
		return stringUnit(s, i), true
	}
	if k == text.Val("length") {
		return api.Val{K: api.Int, N: int64(text.Len(s.S))}, true
	}
	return api.Val{}, false
}

func stringUnit(s api.Val, i int) api.Val {
	if i >= text.Len(s.S) {
		return api.Val{}
	}
	return api.Val{K: api.Str, S: text.Sub(s.S, i, i+1)}
}

// Get returns a value's property of any key.
func (m *Machine) Get(v, k api.Val) (api.Val, int) {
	if m == nil {
		return api.Val{}, Over
	}
	if value.Nullish(v) {
		return m.Type("")
	}
	if o := m.Of(v); o != nil && hasElement(o, k) {
		return o.Elems[k.N], Fine
	}
	key, end := m.Convert(value.Property(k))
	if end != Fine {
		return key, end
	}
	return m.GetKey(v, key)
}

// hasElement reports whether a number is the index of an element, which is common enough to be done fast.
func hasElement(o *heap.Obj, k api.Val) bool {
	return o.Class == heap.Array && k.K == api.Int && k.N >= 0 && k.N < int64(len(o.Elems)) && o.Elems[k.N].K != api.Empty
}

// Member returns a value's property of a name.
func (m *Machine) Member(v api.Val, name string) (api.Val, int) {
	return m.GetKey(v, text.Val(name))
}

// Put assigns a value's property.
func (m *Machine) Put(v, k, x api.Val) (api.Val, int) {
	if m == nil {
		return api.Val{}, Over
	}
	if value.Nullish(v) {
		return m.Type("")
	}
	o := m.Of(v)
	if o != nil && !o.Closed && hasElement(o, k) {
		o.Elems[k.N] = x
		return x, Fine
	}
	key, end := m.Convert(value.Property(k))
	switch {
	case end != Fine:
		return key, end
	case o != nil && !o.Closed && isForeign(o, key):
		return m.Hard()
	case !m.Heap.Put(value.Ref(v), key, x):
		return m.Type("")
	}
	return x, Fine
}

// isForeign reports whether a key consists of digits, but isn't an index that an array may have.
func isForeign(o *heap.Obj, k api.Val) bool {
	if o.Class != heap.Array || k.K != api.Str || k.S == "" || text.Index(k.S) >= 0 {
		return false
	}
	for i := range text.Len(k.S) {
		if u := text.At(k.S, i); u < '0' || u > '9' {
			return false
		}
	}
	return true
}

// remove is delete.
func (m *Machine) remove(v, k api.Val) (api.Val, int) {
	if value.Nullish(v) {
		return m.Type("")
	}
	key, end := m.Convert(value.Property(k))
	if end != Fine {
		return key, end
	}
	if o := m.Of(v); o != nil && !o.Delete(key) {
		return m.Type("")
	}
	return value.Truth(true), Fine
}

// merge copies the own enumerable properties of a value, but for some keys, to an object.
func (m *Machine) merge(to *heap.Obj, from api.Val, without []api.Val) (api.Val, int) {
	if from.K == api.Str {
		return m.mergeUnits(to, from, without)
	}
	o := m.Of(from)
	for _, k := range o.Keys() {
		_, flags, _ := o.Own(k)
		if flags&heap.Enumerable == 0 || slices.Contains(without, k) {
			continue
		}
		v, end := m.GetKey(from, k)
		if end != Fine {
			return v, end
		}
		if !m.Spend(1) {
			return api.Val{}, Over
		}
		to.Define(k, v, heap.All)
	}
	return api.Val{}, Fine
}

func (m *Machine) mergeUnits(to *heap.Obj, s api.Val, without []api.Val) (api.Val, int) {
	for i := range text.Len(s.S) {
		k, _ := value.Property(api.Val{K: api.Int, N: int64(i)})
		if slices.Contains(without, k) {
			continue
		}
		if !m.Spend(1) {
			return api.Val{}, Over
		}
		to.Define(k, stringUnit(s, i), heap.All)
	}
	return api.Val{}, Fine
}

// From returns the prototype of what is constructed for a function.
func (m *Machine) From(target api.Val, other int) int {
	if m == nil {
		return 0
	}
	if o := m.Of(target); o != nil {
		v, _, _ := m.Find(value.Ref(target), text.Val("prototype"))
		if value.IsObj(v) {
			return value.Ref(v)
		}
	}
	return m.proto(other)
}
