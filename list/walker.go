package list

import (
	"ossuary/api"
	"ossuary/heap"
	"ossuary/otable"
	"ossuary/text"
	"ossuary/value"
	"ossuary/vm"
)

// Kinds of walkers.
const (
	Entries = 0
	Keys    = 1
	Vals    = 2
	Signs   = 3
)

// Walker returns an iterator over an array or a string.
func Walker(m *vm.Machine, kind int, v api.Val) api.Val {
	if m == nil {
		return api.Val{}
	}
	r, o := m.Make(heap.Walker, m.Protos[vm.WalkerProto])
	if o == nil {
		return api.Val{}
	}
	o.Kind, o.Slots = kind, []api.Val{v}
	return value.Object(r)
}

// TableWalker returns an iterator over a table that a value has.
func TableWalker(m *vm.Machine, kind int, v api.Val, t *otable.Table) api.Val {
	w := Walker(m, kind, v)
	if w != (api.Val{}) {
		m.Of(w).Cursor = t.Cursor()
	}
	return w
}

// next returns the next result of a walker.
func next(m *vm.Machine, this api.Val) (api.Val, int) {
	o := m.Of(this)
	if o == nil || o.Class != heap.Walker {
		return m.Type("")
	}
	k, v, end := advance(m, o)
	switch {
	case end != vm.Fine:
		return v, end
	case len(o.Slots) == 0:
		return m.Result(api.Val{}, true), vm.Fine
	case o.Kind == Keys:
		v = k
	case o.Kind == Entries:
		v = m.Array([]api.Val{k, v})
	}
	return m.Result(v, false), vm.Fine
}

// advance returns the next key and value; a walker that is done lets go of what it went over.
func advance(m *vm.Machine, o *heap.Obj) (api.Val, api.Val, int) {
	if len(o.Slots) == 0 {
		return api.Val{}, api.Val{}, vm.Fine
	}
	over := o.Slots[0]
	if o.Cursor != nil {
		k, v, _, ok := o.Cursor.Next()
		if !ok {
			o.Slots = nil
		}
		return k, v, vm.Fine
	}
	if array := m.Of(over); array != nil && array.Class == heap.Array && o.At < len(array.Elems) {
		i := whole(o.At)
		o.At++
		v, end := m.Get(over, i)
		return i, v, end
	}
	if over.K == api.Str && o.At < text.Len(over.S) {
		i := whole(o.At)
		_, n := text.Point(over.S, o.At)
		s := text.Sub(over.S, o.At, o.At+n)
		o.At += n
		return i, api.Val{K: api.Str, S: s}, vm.Fine
	}
	o.Slots = nil
	return api.Val{}, api.Val{}, vm.Fine
}
