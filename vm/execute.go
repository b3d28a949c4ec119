package vm

import (
	"ossuary/api"
	"ossuary/code"
	"ossuary/heap"
	"ossuary/num"
	"ossuary/text"
	"ossuary/value"
)

// execute executes a frame until its function ends, gives a value, or the run has ended.
func (m *Machine) execute(f *Frame, c completion) (api.Val, int) {
run:
	for {
		if c.kind == none {
			if !m.Spend(1) {
				break run
			}
			if f.pc < 0 || f.pc >= len(f.f.Ins) {
				return api.Val{}, Fine
			}
			f.pc++
			c = m.perform(f, f.f.Ins[f.pc-1])
			continue run
		}
		if c.kind == gave {
			return c.val, Gave
		}
		c = m.leave(f, c)
		switch c.kind {
		case none:
			continue run
		case thrown:
			return c.val, Threw
		case returned:
			return c.val, Fine
		}
		break run
	}
	return api.Val{}, Over
}

// outcome goes on with a value, or with how it couldn't be had.
func (m *Machine) outcome(f *Frame, v api.Val, end int) completion {
	switch end {
	case Fine:
		f.push(v)
		return completion{}
	case Threw:
		return completion{kind: thrown, val: v}
	}
	return completion{kind: over}
}

// perform executes an instruction.
func (m *Machine) perform(f *Frame, x code.Ins) completion {
	switch {
	case x.Op <= code.Rot:
		return f.stackOp(x)
	case x.Op <= code.Again:
		return m.scopeOp(f, x)
	case x.Op <= code.SuperProp:
		return m.propertyOp(f, x)
	case x.Op <= code.Instance:
		return m.operatorOp(f, x)
	case x.Op <= code.Else:
		return f.jumpOp(x)
	case x.Op <= code.MethodIndex:
		return m.literalOp(f, x)
	case x.Op <= code.This:
		return m.callOp(f, x)
	case x.Op <= code.Continue:
		return m.markOp(f, x)
	case x.Op <= code.Shut:
		return m.iterateOp(f, x)
	}
	return m.otherOp(f, x)
}

// constant returns the constant that an instruction names.
func (f *Frame) constant(x code.Ins) api.Val { return f.f.Consts[x.A] }

func (f *Frame) stackOp(x code.Ins) completion {
	switch x.Op {
	case code.Const:
		f.push(f.constant(x))
	case code.Undef:
		f.push(api.Val{})
	case code.Null:
		f.push(api.Val{K: api.Null})
	case code.True, code.False:
		f.push(value.Truth(x.Op == code.True))
	case code.Pop:
		f.pop()
	case code.Dup:
		f.push(f.peek(0))
	case code.Swap:
		f.rotate(1)
	case code.Pick:
		f.push(f.peek(x.A))
	case code.Rot:
		f.rotate(x.A)
	}
	return completion{}
}

// rotate puts the top below the n values under it.
func (f *Frame) rotate(n int) {
	from := len(f.stack) - 1 - n
	if n < 0 || from < 0 {
		return
	}
	v := f.peek(0)
	copy(f.stack[from+1:], f.stack[from:])
	f.stack[from] = v
}

// binding returns the binding of an instruction, or nil.
func (m *Machine) binding(f *Frame, x code.Ins) *api.Val {
	e := m.Env(f.env)
	for i := 0; i < x.A && e != nil; i++ {
		e = m.Env(e.Up)
	}
	if e == nil || x.B < 0 || x.B >= len(e.Vals) {
		return nil
	}
	return &e.Vals[x.B]
}

// scope makes an environment; no source has more names than bytes, so other code may not want more.
func (m *Machine) scope(n, up int) int { return m.Scope(min(n, api.MaxSource), up) }

func (m *Machine) scopeOp(f *Frame, x code.Ins) completion {
	switch x.Op {
	case code.Get, code.Set, code.Init:
		return m.bindingOp(f, x)
	case code.Unknown:
		return m.outcomeOf(f)(m.Fail(ReferenceProto, ""))
	case code.Locked:
		return m.outcomeOf(f)(m.Type(""))
	case code.Enter:
		f.env = m.scope(x.A, f.env)
	case code.Leave:
		if e := m.Env(f.env); e != nil {
			f.env = e.Up
		}
	case code.Again:
		if e := m.Env(f.env); e != nil {
			f.env = m.Scope(len(e.Vals), e.Up)
			if again := m.Env(f.env); again != nil {
				copy(again.Vals, e.Vals)
			}
		}
	}
	return completion{}
}

// outcomeOf takes the results of a call.
func (m *Machine) outcomeOf(f *Frame) func(v api.Val, end int) completion {
	return func(v api.Val, end int) completion { return m.outcome(f, v, end) }
}

func (m *Machine) bindingOp(f *Frame, x code.Ins) completion {
	b := m.binding(f, x)
	if b == nil || b.K == api.Empty && x.Op != code.Init {
		return m.outcomeOf(f)(m.Fail(ReferenceProto, ""))
	}
	if x.Op == code.Get {
		f.push(*b)
	} else {
		*b = f.pop()
	}
	return completion{}
}

func (m *Machine) propertyOp(f *Frame, x code.Ins) completion {
	to := m.outcomeOf(f)
	switch x.Op {
	case code.Prop:
		return to(m.GetKey(f.pop(), f.constant(x)))
	case code.Index:
		k := f.pop()
		return to(m.Get(f.pop(), k))
	case code.PutProp:
		v := f.pop()
		return to(m.Put(f.pop(), f.constant(x), v))
	case code.PutIndex:
		v, k := f.pop(), f.pop()
		// In this order: what is popped last is the object.
		return to(m.Put(f.pop(), k, v))
	case code.DelProp:
		return to(m.remove(f.pop(), f.constant(x)))
	case code.DelIndex:
		k := f.pop()
		return to(m.remove(f.pop(), k))
	}
	return to(m.superProperty(f, f.constant(x)))
}

// superProperty reads a property of the prototype of the object whose method is executed. It calls no
// function, so a getter is read like any other value.
func (m *Machine) superProperty(f *Frame, k api.Val) (api.Val, int) {
	home := m.Obj(f.home)
	if f.this.K == api.Empty {
		return m.Fail(ReferenceProto, "")
	}
	if home == nil || home.Proto == 0 {
		return m.Type("")
	}
	v, _, _ := m.Find(home.Proto, k)
	return v, Fine
}

func (m *Machine) operatorOp(f *Frame, x code.Ins) completion {
	to := m.outcomeOf(f)
	v := f.pop()
	switch x.Op {
	case code.Binary:
		return to(m.Convert(value.Binary(code.Operator(x.A), f.pop(), v)))
	case code.Neg, code.Plus, code.Number:
		n, end := m.Convert(value.Number(v))
		if end == Fine && x.Op == code.Neg {
			n = num.Neg(n)
		}
		return to(n, end)
	case code.Not:
		return to(value.Truth(!value.True(v)), Fine)
	case code.Typeof:
		return to(text.Val(m.typeOf(v)), Fine)
	case code.Inc:
		return to(m.Convert(value.Binary("-", v, api.Val{K: api.Int, N: -1})))
	case code.Dec:
		return to(m.Convert(value.Binary("-", v, api.Val{K: api.Int, N: 1})))
	case code.In:
		return to(m.in(f.pop(), v))
	}
	return to(m.instance(f.pop(), v))
}

func (m *Machine) typeOf(v api.Val) string {
	switch v.K {
	case api.Undef:
		return "undefined"
	case api.Bool:
		return "boolean"
	case api.Int, api.NaN, api.Inf, api.NegZero:
		return "number"
	case api.Str:
		return "string"
	case api.Sym:
		return "symbol"
	}
	if m.Callable(v) {
		return "function"
	}
	return "object"
}

func (m *Machine) in(k, v api.Val) (api.Val, int) {
	if !value.IsObj(v) {
		return m.Type("")
	}
	key, end := m.Convert(value.Property(k))
	if end != Fine {
		return key, end
	}
	_, _, ok := m.Find(value.Ref(v), key)
	return value.Truth(ok), Fine
}

// instance is instanceof; a bound function, whose Home is what it calls, stands for that.
func (m *Machine) instance(v, fn api.Val) (api.Val, int) {
	if !m.Callable(fn) {
		return m.Type("")
	}
	o := m.Of(fn)
	for {
		if _, ok := o.Fn.(native); !ok || m.Obj(o.Home) == nil {
			break
		}
		fn = value.Object(o.Home)
		o = m.Of(fn)
	}
	if !value.IsObj(v) {
		return value.Truth(false), Fine
	}
	proto, end := m.Member(fn, "prototype")
	if end != Fine {
		return proto, end
	}
	if !value.IsObj(proto) {
		return m.Type("")
	}
	above := m.Of(v)
	return value.Truth(above != nil && !m.Chain(value.Ref(proto), above.Proto)), Fine
}

func (f *Frame) jumpOp(x code.Ins) completion {
	v := f.peek(0)
	jump := true
	switch x.Op {
	case code.JumpIf:
		jump = value.True(f.pop())
	case code.JumpNo:
		jump = !value.True(f.pop())
	case code.And:
		jump = !value.True(v)
	case code.Or:
		jump = value.True(v)
	case code.Else:
		jump = !value.Nullish(v)
	}
	if jump {
		f.pc = x.A
	} else if x.Op == code.And || x.Op == code.Or || x.Op == code.Else {
		f.pop()
	}
	return completion{}
}

func (m *Machine) literalOp(f *Frame, x code.Ins) completion {
	switch x.Op {
	case code.Object:
		f.push(m.Object())
		return completion{}
	case code.Array:
		f.push(m.Array(nil))
		return completion{}
	}
	v := f.pop()
	switch x.Op {
	case code.Push:
		return m.extend(f, v)
	case code.Hole:
		f.push(v)
		return m.extend(f, api.Val{K: api.Empty})
	case code.PushAll:
		return m.extendAll(f, v)
	case code.Merge:
		return m.mergeOp(f, v)
	}
	k := f.pop()
	return m.ownIndex(f, k, v, x.Op == code.MethodIndex)
}

// extend adds an element to the array on the top.
func (m *Machine) extend(f *Frame, v api.Val) completion {
	o := m.Of(f.peek(0))
	if o == nil || len(o.Elems) >= api.MaxArray {
		return m.outcomeOf(f)(m.Hard())
	}
	o.Elems = append(o.Elems, v)
	return completion{}
}

func (m *Machine) extendAll(f *Frame, v api.Val) completion {
	var w Walk
	for x := range m.Values(v, &w) {
		if c := m.extend(f, x); c.kind != none {
			w.Fail(c.val, Over)
			break
		}
	}
	if w.End != Fine {
		return m.outcome(f, w.Val, w.End)
	}
	return completion{}
}

func (m *Machine) mergeOp(f *Frame, from api.Val) completion {
	o := m.Of(f.peek(0))
	if o == nil {
		return completion{}
	}
	if v, end := m.merge(o, from, nil); end != Fine {
		return m.outcome(f, v, end)
	}
	return completion{}
}

// ownIndex defines a property of the object on the top.
func (m *Machine) ownIndex(f *Frame, k, v api.Val, method bool) completion {
	key, end := m.Convert(value.Property(k))
	if end != Fine {
		return m.outcome(f, key, end)
	}
	o := m.Of(f.peek(0))
	if fn := m.Of(v); method && fn != nil {
		fn.Home = value.Ref(f.peek(0))
	}
	o.Define(key, v, heap.All)
	return completion{}
}
