package vm

import (
	"ossuary/api"
	"ossuary/heap"
	"ossuary/value"
)

// A walk is an iteration in progress; done also says that its iterator failed.
type walk struct {
	iter api.Val
	next api.Val
	done bool
}

// iterate obtains the iterator of a value.
func (m *Machine) iterate(v api.Val) (walk, api.Val, int) {
	method, end := m.Get(v, m.Iterator)
	if end != Fine {
		return walk{}, method, end
	}
	iter, end := m.Call(method, v, nil)
	if end != Fine {
		return walk{}, iter, end
	}
	if !value.IsObj(iter) {
		x, end := m.Type("")
		return walk{}, x, end
	}
	next, end := m.Member(iter, "next")
	if end != Fine {
		return walk{}, next, end
	}
	return walk{iter: iter, next: next}, api.Val{}, Fine
}

// step returns the next value, or false if there is none. An iterator that fails is done.
func (m *Machine) step(w *walk) (api.Val, bool, int) {
	w.done = true
	result, end := m.Call(w.next, w.iter, nil)
	if end != Fine {
		return result, false, end
	}
	v, more, end := m.open(result)
	w.done = end != Fine || !more
	return v, more, end
}

// open reads the result of an iterator: its value, unless it is done.
func (m *Machine) open(result api.Val) (api.Val, bool, int) {
	if !value.IsObj(result) {
		v, end := m.Type("")
		return v, false, end
	}
	done, end := m.Member(result, "done")
	if end != Fine {
		return done, false, end
	}
	if value.True(done) {
		return api.Val{}, false, Fine
	}
	v, end := m.Member(result, "value")
	return v, end == Fine, end
}

// method returns a method of an object; undefined if there is none.
func (m *Machine) method(v api.Val, name string) (api.Val, int) {
	f, end := m.Member(v, name)
	switch {
	case end != Fine:
		return f, end
	case value.Nullish(f):
		return api.Val{}, Fine
	case !m.Callable(f):
		return m.Type("")
	}
	return f, Fine
}

// CloseIter closes an iterator. What it throws counts less than what was thrown before.
func (m *Machine) CloseIter(it api.Val, throwing bool) (api.Val, int) {
	if m == nil {
		return api.Val{}, Over
	}
	v, end := m.callReturn(it)
	if throwing && end == Threw {
		return api.Val{}, Fine
	}
	return v, end
}

func (m *Machine) callReturn(it api.Val) (api.Val, int) {
	f, end := m.method(it, "return")
	if end != Fine || f == (api.Val{}) {
		return f, end
	}
	v, end := m.Call(f, it, nil)
	switch {
	case end != Fine:
		return v, end
	case !value.IsObj(v):
		return m.Type("")
	}
	return api.Val{}, Fine
}

// A Walk tells how an iteration ended: as Fine, or with a value that was thrown, or with the run.
type Walk struct {
	Val api.Val
	End int
}

// Fail ends an iteration in a certain way.
func (w *Walk) Fail(v api.Val, end int) {
	if w != nil {
		w.Val, w.End = v, end
	}
}

// Values iterates over the values of an iterable; leaving the iteration closes the iterator.
func (m *Machine) Values(v api.Val, w *Walk) func(yield func(api.Val) bool) {
	if w == nil {
		w = &Walk{}
	}
	return func(yield func(api.Val) bool) {
		w.Fail(api.Val{}, Fine)
		if m == nil {
			w.Fail(api.Val{}, Over)
			return
		}
		inner, x, end := m.iterate(v)
		if end != Fine {
			w.Fail(x, end)
			return
		}
		defer m.unpin(m.pin(inner.iter, inner.next))
		for {
			x, more, end := m.step(&inner)
			if end != Fine {
				w.Fail(x, end)
				return
			}
			if !more {
				return
			}
			if !m.Spend(1) {
				w.Fail(api.Val{}, Over)
				return
			}
			if !m.yield(x, yield) {
				m.abandon(inner, w)
				return
			}
		}
	}
}

// yield keeps a value reachable while the body of an iteration works with it.
func (m *Machine) yield(x api.Val, yield func(api.Val) bool) bool {
	defer m.unpin(m.pin(x))
	return yield(x)
}

func (m *Machine) abandon(inner walk, w *Walk) {
	if w.End == Over {
		return
	}
	defer m.unpin(m.pin(w.Val))
	v, end := m.CloseIter(inner.iter, w.End == Threw)
	if end != Fine {
		w.Fail(v, end)
	}
}

// List returns all values of an iterable.
func (m *Machine) List(v api.Val) ([]api.Val, api.Val, int) {
	if m == nil {
		return nil, api.Val{}, Over
	}
	var w Walk
	var l []api.Val
	i := m.pin()
	defer m.unpin(i)
	for x := range m.Values(v, &w) {
		l = append(l, x)
		m.pins[i] = l
	}
	if w.End != Fine {
		return nil, w.Val, w.End
	}
	return l, api.Val{}, Fine
}

// Ways to resume a generator.
const (
	GoNext   = 0
	GoThrow  = 1
	GoReturn = 2
)

// The states of a generator.
const (
	fresh = iota
	running
	suspended
	ended
)

// GoOn resumes a generator and returns its value and whether it is done.
func (m *Machine) GoOn(v api.Val, how int, x api.Val) (api.Val, bool, int) {
	o := m.object(v)
	if o == nil || o.Class != heap.Generator || o.Kind == running {
		x, end := m.Type("")
		return x, false, end
	}
	switch {
	case o.Kind == fresh && how != GoNext:
		o.Kind, o.Inside = ended, nil
		fallthrough
	case o.Kind == ended:
		return goOnEnded(how, x)
	}
	defer m.unpin(m.pin(v, x))
	return m.resume(o, how, x)
}

func goOnEnded(how int, x api.Val) (api.Val, bool, int) {
	switch how {
	case GoThrow:
		return x, false, Threw
	case GoReturn:
		return x, true, Fine
	}
	return api.Val{}, true, Fine
}

func (m *Machine) resume(o *heap.Obj, how int, x api.Val) (api.Val, bool, int) {
	f, ok := o.Inside.(*Frame)
	if !ok {
		v, end := m.Type("")
		return v, false, end
	}
	if !m.begin() {
		return api.Val{}, false, Over
	}
	defer m.end()
	start := o.Kind == fresh
	o.Kind = running
	v, end := m.enter(f, func() completion { return f.goOn(start, how, x) })
	switch end {
	case Gave:
		o.Kind = suspended
		return v, false, Fine
	case Over:
		return api.Val{}, false, Over
	}
	o.Kind, o.Inside = ended, nil
	return v, end == Fine, end
}

// goOn returns how a generator goes on where it stands.
func (f *Frame) goOn(start bool, how int, x api.Val) completion {
	switch {
	case start:
		return completion{}
	case f.delegating:
		f.how, f.sent = how, x
		return completion{}
	case how == GoThrow:
		return completion{kind: thrown, val: x}
	case how == GoReturn:
		return completion{kind: returned, val: x}
	}
	f.push(x)
	return completion{}
}

// delegate resumes the inner iterator of a yield* in the way in which the generator was resumed.
func (m *Machine) delegate(f *Frame) completion {
	w := f.walk()
	if w == nil {
		return m.outcome(f, api.Val{}, Fine)
	}
	how, x := f.how, f.sent
	f.how, f.sent, f.delegating = GoNext, api.Val{}, false
	// It closes its iterator itself where that is needed.
	w.done = true
	method, end := m.delegated(*w, how)
	if end != Fine {
		return m.outcome(f, method, end)
	}
	if method == (api.Val{}) {
		f.dropMark()
		return completion{kind: returned, val: x}
	}
	result, end := m.Call(method, w.iter, []api.Val{x})
	if end != Fine {
		return m.outcome(f, result, end)
	}
	return m.given(f, how, result)
}

// delegated returns the method of an inner iterator to be called; undefined if a generator returns at once.
func (m *Machine) delegated(w walk, how int) (api.Val, int) {
	switch how {
	case GoThrow:
		method, end := m.method(w.iter, "throw")
		if end != Fine || method != (api.Val{}) {
			return method, end
		}
		if v, end := m.CloseIter(w.iter, false); end != Fine {
			return v, end
		}
		return m.Type("")
	case GoReturn:
		return m.method(w.iter, "return")
	}
	if !m.Callable(w.next) {
		return m.Type("")
	}
	return w.next, Fine
}

// given goes on with the result of an inner iterator.
func (m *Machine) given(f *Frame, how int, result api.Val) completion {
	v, more, end := m.open(result)
	if end != Fine {
		return m.outcome(f, v, end)
	}
	if more {
		f.pc--
		f.delegating = true
		return completion{kind: gave, val: v}
	}
	v, end = m.Member(result, "value")
	if end != Fine {
		return m.outcome(f, v, end)
	}
	f.dropMark()
	if how == GoReturn {
		return completion{kind: returned, val: v}
	}
	return m.outcome(f, v, Fine)
}
