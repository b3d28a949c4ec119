package vm

import (
	"slices"

	"ossuary/api"
	"ossuary/code"
	"ossuary/heap"
	"ossuary/value"
)

// begin counts a call as in progress, until end; it returns false if the run has ended.
func (m *Machine) begin() bool {
	if m.over {
		return false
	}
	if m.depth >= m.Bounds.Depth {
		m.finish(api.EndDepth)
		return false
	}
	m.depth++
	return true
}

func (m *Machine) end() { m.depth-- }

// Call calls a function.
func (m *Machine) Call(fn, this api.Val, args []api.Val) (api.Val, int) {
	if m == nil || m.over {
		return api.Val{}, Over
	}
	o := m.Of(fn)
	if !m.Callable(fn) {
		return m.Type("")
	}
	if len(args) > api.MaxArgs {
		return m.Hard()
	}
	f, ok := o.Fn.(*code.Func)
	switch {
	case !ok:
		return m.callNative(fn, Call{Fn: o, This: this, Args: args})
	case f.Class:
		return m.Type("")
	case f.Generator:
		return m.generator(fn, this, args)
	}
	return m.callCode(m.frame(fn, this, args))
}

// frame makes the frame of a call of code.
func (m *Machine) frame(fn, this api.Val, args []api.Val) *Frame {
	o := m.Of(fn)
	f, _ := o.Fn.(*code.Func)
	if f.Arrow && len(o.Slots) > 0 {
		this = o.Slots[0]
	}
	return &Frame{f: f, fn: fn, this: this, home: o.Home, args: args}
}

func (m *Machine) callCode(f *Frame) (api.Val, int) {
	if !m.begin() {
		return api.Val{}, Over
	}
	defer m.end()
	v, end := m.enter(f, func() completion { return completion{} })
	if end == Gave {
		end = Fine
	}
	return v, end
}

// enter executes a frame from where it stands, after a safepoint.
func (m *Machine) enter(f *Frame, start func() completion) (api.Val, int) {
	m.frames = append(m.frames, f)
	defer func() {
		last := len(m.frames) - 1
		m.frames[last] = nil
		m.frames = m.frames[:last]
	}()
	if !m.Point() {
		return api.Val{}, Over
	}
	if f.env == 0 {
		f.env = m.scope(f.f.Bindings, m.Of(f.fn).Env)
	}
	return m.execute(f, start())
}

// generator creates a generator, which executes nothing before it is resumed.
func (m *Machine) generator(fn, this api.Val, args []api.Val) (api.Val, int) {
	if !m.begin() {
		return api.Val{}, Over
	}
	defer m.end()
	f := m.frame(fn, this, slices.Clone(args))
	m.frames = append(m.frames, f)
	ok := m.Point()
	m.frames = m.frames[:len(m.frames)-1]
	if !ok {
		return api.Val{}, Over
	}
	r, o := m.create(heap.Generator, m.From(fn, GeneratorProto))
	o.Inside = f
	return value.Object(r), Fine
}

// callNative calls a native function, whose values stay reachable meanwhile.
func (m *Machine) callNative(fn api.Val, c Call) (api.Val, int) {
	if !m.Spend(1) || !m.begin() {
		return api.Val{}, Over
	}
	defer m.end()
	if m.Host == nil {
		return m.Hard()
	}
	m.natives, m.callees = append(m.natives, c), append(m.callees, fn)
	defer func() {
		last := len(m.natives) - 1
		m.natives[last] = Call{}
		m.natives, m.callees = m.natives[:last], m.callees[:last]
	}()
	v, end := m.Host.Native(m, c.Fn.Kind, c)
	if m.over {
		return api.Val{}, Over
	}
	return v, end
}

// Construct is new for a function and the function that new was applied to.
func (m *Machine) Construct(fn api.Val, args []api.Val, target api.Val) (api.Val, int) {
	if m == nil || m.over {
		return api.Val{}, Over
	}
	if !m.Maker(fn) {
		return m.Type("")
	}
	if len(args) > api.MaxArgs {
		return m.Hard()
	}
	o := m.Of(fn)
	maker, ok := o.Fn.(*code.Func)
	if !ok {
		return m.callNative(fn, Call{Fn: o, Args: args, Target: target})
	}
	f := m.frame(fn, api.Val{K: api.Empty}, args)
	f.target = target
	if !maker.Heir {
		r, _ := m.create(heap.Plain, m.From(target, ObjectProto))
		f.this = value.Object(r)
	}
	v, end := m.callCode(f)
	switch {
	case end != Fine || value.IsObj(v):
		return v, end
	case maker.Heir && v != (api.Val{}):
		return m.Type("")
	case f.this.K == api.Empty:
		return m.Fail(ReferenceProto, "")
	}
	return f.this, Fine
}

// Run runs code in the global environment. The code that a compiler doesn't make may be such that it can't be executed.
func (m *Machine) Run(f *code.Func) (v api.Val, end int) {
	if m == nil || f == nil {
		return api.Val{}, Fine
	}
	frames, natives, pins, depth := len(m.frames), len(m.natives), len(m.pins), m.depth
	defer func() {
		if recover() == nil {
			return
		}
		m.frames, m.natives, m.callees, m.depth = m.frames[:frames], m.natives[:natives], m.callees[:natives], depth
		m.unpin(pins)
		v, end = m.Hard()
	}()
	program := &Frame{f: f, env: m.scope(f.Bindings, m.World)}
	m.frames = append(m.frames, program)
	v, end = m.execute(program, completion{})
	m.frames = m.frames[:frames]
	if end == Gave {
		end = Fine
	}
	return v, end
}
