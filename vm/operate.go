package vm

import (
	"ossuary/api"
	"ossuary/code"
	"ossuary/heap"
	"ossuary/text"
	"ossuary/value"
)

func (m *Machine) callOp(f *Frame, x code.Ins) completion {
	to := m.outcomeOf(f)
	switch x.Op {
	case code.Closure:
		f.push(m.closure(f, x.A))
		return completion{}
	case code.Class:
		return m.class(f, x)
	case code.Member:
		return m.member(f, x.A != 0)
	case code.Above:
		return to(m.above(f), Fine)
	case code.This:
		if f.this.K == api.Empty {
			return to(m.Fail(ReferenceProto, ""))
		}
		return to(f.this, Fine)
	}
	var args []api.Val
	switch x.Op {
	case code.Call, code.New, code.Super:
		args = f.popAll(x.A)
	default:
		if o := m.Of(f.pop()); o != nil {
			args = append(args, o.Elems...)
		}
	}
	switch x.Op {
	case code.Call, code.CallAll:
		this := f.pop()
		return to(m.Call(f.pop(), this, args))
	case code.New, code.NewAll:
		fn := f.pop()
		return to(m.Construct(fn, args, fn))
	}
	return m.super(f, args)
}

// closure creates a function in a frame; an arrow function takes over its this and its home.
func (m *Machine) closure(f *Frame, i int) api.Val {
	v := m.Closure(f.f.Funcs[i], f.env)
	if o := m.Of(v); o != nil && f.f.Funcs[i].Arrow {
		o.Slots, o.Home = []api.Val{f.this}, f.home
	}
	return v
}

func (m *Machine) above(f *Frame) api.Val {
	if o := m.Of(f.fn); o != nil && o.Proto != 0 {
		return value.Object(o.Proto)
	}
	return api.Val{K: api.Null}
}

func (m *Machine) super(f *Frame, args []api.Val) completion {
	v, end := m.Construct(f.pop(), args, f.target)
	if end == Fine {
		if f.this.K != api.Empty {
			v, end = m.Fail(ReferenceProto, "")
		} else {
			f.this = v
		}
	}
	return m.outcome(f, v, end)
}

// class pushes a constructor and the prototype of its instances.
func (m *Machine) class(f *Frame, x code.Ins) completion {
	extended, proto := m.proto(FunctionProto), m.proto(ObjectProto)
	if x.B != 0 {
		parent := f.pop()
		if parent.K == api.Null {
			proto = 0
		} else {
			above, end := m.protoOf(parent)
			if end != Fine {
				return m.outcome(f, above, end)
			}
			extended, proto = value.Ref(parent), value.Ref(above)
		}
	}
	fn := m.Closure(m.maker(f.f, x), f.env)
	r, p := m.create(heap.Plain, proto)
	if o := m.Of(fn); o != nil {
		o.Proto, o.Home = extended, r
		m.Own(o, "prototype", value.Object(r), 0)
	}
	m.Own(p, "constructor", fn, heap.Hidden)
	f.push(fn)
	f.push(value.Object(r))
	return completion{}
}

// maker returns the code of a class's constructor, or that of one that has none.
func (m *Machine) maker(f *code.Func, x code.Ins) *code.Func {
	if x.A >= 0 && x.A < len(f.Funcs) {
		return f.Funcs[x.A]
	}
	own := &code.Func{Method: true, Class: true, Heir: x.B != 0}
	if own.Heir {
		own.Emit(code.Above, 0, 0)
		own.Emit(code.Args, 0, 0)
		own.Emit(code.SuperAll, 0, 0)
	}
	own.Emit(code.Undef, 0, 0)
	own.Emit(code.Return, 0, 0)
	return own
}

// protoOf returns the prototype of a constructor's instances: an object or null.
func (m *Machine) protoOf(parent api.Val) (api.Val, int) {
	if !m.Maker(parent) {
		return m.Type("")
	}
	v, end := m.Member(parent, "prototype")
	if end == Fine && !value.IsObj(v) && v.K != api.Null {
		return m.Type("")
	}
	return v, end
}

// member defines a method of a class, whose constructor and prototype lie below its key.
func (m *Machine) member(f *Frame, static bool) completion {
	v, k := f.pop(), f.pop()
	key, end := m.Convert(value.Property(k))
	if end != Fine {
		return m.outcome(f, key, end)
	}
	to := f.peek(0)
	if static {
		to = f.peek(1)
	}
	if o := m.Of(v); o != nil {
		o.Home = value.Ref(to)
	}
	if !m.Of(to).Define(key, v, heap.Hidden) {
		return m.outcomeOf(f)(m.Type(""))
	}
	return completion{}
}

func (m *Machine) markOp(f *Frame, x code.Ins) completion {
	switch x.Op {
	case code.Return:
		return completion{kind: returned, val: f.pop()}
	case code.Throw:
		return completion{kind: thrown, val: f.pop()}
	case code.Try:
		f.addMark(mark{kind: tryMark, a: x.A})
	case code.Finish:
		f.addMark(mark{kind: finishMark, a: x.A})
	case code.Loop:
		f.addMark(mark{kind: loopMark, a: x.A, b: x.B})
	case code.EndTry, code.EndLoop:
		f.dropMark()
	case code.Ended:
		f.pc = f.dropMark().a
		f.pending = append(f.pending, completion{kind: finished})
	case code.Resume:
		return f.resumed()
	case code.Mark:
		if last := len(f.marks) - 1; last >= 0 {
			f.marks[last].env = f.env
		}
	case code.Break:
		return completion{kind: broken, at: f.loopAt(x.A)}
	case code.Continue:
		return completion{kind: continued, at: f.loopAt(x.A)}
	}
	return completion{}
}

// resumed returns how it goes on behind a block of finally.
func (f *Frame) resumed() completion {
	last := len(f.pending) - 1
	if last < 0 {
		return completion{}
	}
	c := f.pending[last]
	f.pending[last] = completion{}
	f.pending = f.pending[:last]
	switch c.kind {
	case finished:
		fallthrough
	case none:
		return completion{}
	}
	return c
}

func (m *Machine) iterateOp(f *Frame, x code.Ins) completion {
	if x.Op == code.Open {
		w, v, end := m.iterate(f.pop())
		if end != Fine {
			return m.outcome(f, v, end)
		}
		f.addMark(mark{kind: iterMark, walk: w})
		return completion{}
	}
	w := f.walk()
	if w == nil {
		w = &walk{done: true}
	}
	switch x.Op {
	case code.Next:
		return m.next(f, w, x.A)
	case code.Step:
		if w.done {
			f.push(api.Val{})
			return completion{}
		}
		v, _, end := m.step(w)
		return m.outcome(f, v, end)
	case code.Rest:
		return m.rest(f, w)
	}
	left := *w
	f.dropMark()
	if x.Op == code.Close {
		return m.leaveWalk(left, completion{})
	}
	return completion{}
}

func (m *Machine) next(f *Frame, w *walk, end int) completion {
	v, more, how := m.step(w)
	if how == Fine && !more {
		f.pc = end
		return completion{}
	}
	return m.outcome(f, v, how)
}

// rest pushes an array of all values that are left.
func (m *Machine) rest(f *Frame, w *walk) completion {
	f.push(m.Array(nil))
	for !w.done {
		v, more, end := m.step(w)
		if end != Fine {
			return m.outcome(f, v, end)
		}
		if !more {
			break
		}
		if !m.Spend(1) {
			return completion{kind: over}
		}
		if c := m.extend(f, v); c.kind != none {
			return c
		}
	}
	return completion{}
}

func (m *Machine) otherOp(f *Frame, x code.Ins) completion {
	to := m.outcomeOf(f)
	switch x.Op {
	case code.Need:
		if value.Nullish(f.peek(0)) {
			return to(m.Type(""))
		}
	case code.Note:
		return to(m.Convert(value.Property(f.pop())))
	case code.Others:
		return to(m.others(f, x))
	case code.Arg:
		f.push(Call{Args: f.args}.Arg(x.A))
	case code.Args:
		f.push(m.Array(f.args[min(max(x.A, 0), len(f.args)):]))
	case code.Yield:
		return completion{kind: gave, val: f.pop()}
	case code.Delegate:
		return m.delegate(f)
	case code.Point:
		if !m.Point() {
			return completion{kind: over}
		}
	case code.Pick2:
		f.push(f.peek(1))
		f.push(f.peek(1))
	case code.Name:
		m.nameFunction(f.peek(0), f.constant(x))
	}
	return completion{}
}

// others returns an object of what is left of the one below A keys and B other values.
func (m *Machine) others(f *Frame, x code.Ins) (api.Val, int) {
	var taken []api.Val
	for i := range min(max(x.A, 0), len(f.stack)) {
		k, end := m.Convert(value.Property(f.peek(x.B + i)))
		if end != Fine {
			return k, end
		}
		taken = append(taken, k)
	}
	v := m.Object()
	defer m.unpin(m.pin(v))
	if x, end := m.merge(m.Of(v), f.peek(x.B+max(x.A, 0)), taken); end != Fine {
		return x, end
	}
	return v, Fine
}

// nameFunction names a function whose own name is still empty.
func (m *Machine) nameFunction(v, name api.Val) {
	o := m.Of(v)
	if old, flags, _ := o.Own(text.Val("name")); old == text.Val("") {
		o.Define(text.Val("name"), name, flags)
	}
}
