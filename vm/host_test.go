package vm_test

import (
	"strings"
	"testing"

	"ossuary/api"
	"ossuary/compile"
	"ossuary/early"
	"ossuary/heap"
	"ossuary/text"
	"ossuary/value"
	"ossuary/vm"
)

// The native functions of a small world, which has what the machine itself doesn't.
const (
	idPrint = iota + 1
	idWalk  // of an array or a string: its iterator
	idNext
	idSelf
	idGenNext
	idGenThrow
	idGenReturn
	idEach // of an iterable and a function
	idList
	idError // makes a TypeError
	idConstruct
	idJunk // makes an object that nothing references
	idWeak // keeps an object until the job ends
	idGetter
)

type host struct{}

func (host) Native(m *vm.Machine, id int, c vm.Call) (api.Val, int) {
	switch id {
	case idPrint:
		return say(m, c)
	case idWalk:
		r, o := m.Make(heap.Walker, m.Protos[vm.WalkerProto])
		o.Slots = []api.Val{c.This}
		return value.Object(r), vm.Fine
	case idNext:
		return next(m, c)
	case idSelf:
		return c.This, vm.Fine
	case idGenNext, idGenThrow, idGenReturn:
		v, done, end := m.GoOn(c.This, id-idGenNext, c.Arg(0))
		if end != vm.Fine {
			return v, end
		}
		m.Hold(v)
		defer m.Release(1)
		return m.Result(v, done), vm.Fine
	case idEach:
		return each(m, c)
	case idList:
		l, v, end := m.List(c.Arg(0))
		if end != vm.Fine {
			return v, end
		}
		return m.Array(l), vm.Fine
	case idError:
		return m.Type("made")
	case idConstruct:
		return m.Construct(c.Arg(0), c.Args[1:], c.Arg(0))
	case idJunk:
		m.Object()
	case idWeak:
		m.Keep(value.Ref(c.Arg(0)))
	case idGetter:
		return c.This, vm.Fine
	}
	return api.Val{}, vm.Fine
}

func say(m *vm.Machine, c vm.Call) (api.Val, int) {
	var l []string
	for _, v := range c.Args {
		s, how := value.Text(v)
		switch {
		case how == value.OK:
			l = append(l, text.Go(s))
		case v.K == api.Sym:
			l = append(l, "symbol")
		case m.Callable(v):
			l = append(l, "function")
		default:
			l = append(l, "object")
		}
	}
	if !m.Say(strings.Join(l, " ")) {
		return api.Val{}, vm.Over
	}
	return api.Val{}, vm.Fine
}

func next(m *vm.Machine, c vm.Call) (api.Val, int) {
	o := m.Of(c.This)
	of := o.Slots[0]
	n, end := m.Member(of, "length")
	if end != vm.Fine || int64(o.At) >= n.N {
		return m.Result(api.Val{}, true), end
	}
	v, end := m.Get(of, api.Val{K: api.Int, N: int64(o.At)})
	o.At++
	if end != vm.Fine {
		return v, end
	}
	return m.Result(v, false), vm.Fine
}

func each(m *vm.Machine, c vm.Call) (api.Val, int) {
	var w vm.Walk
	for x := range m.Values(c.Arg(0), &w) {
		v, end := m.Call(c.Arg(1), api.Val{}, []api.Val{x})
		if end != vm.Fine {
			w.Fail(v, end)
			break
		}
		if v == value.Truth(false) {
			break
		}
	}
	return w.Val, w.End
}

const globals = "undefined NaN Infinity print iterator TypeError ReferenceError each list fail construct junk keep"

// world makes a machine with a small world.
func world(b api.Bounds, s api.Script) *vm.Machine {
	m := vm.New(host{}, b, s)
	for i := range m.Protos {
		m.Protos[i], _ = m.Make(heap.Plain, m.Protos[vm.ObjectProto])
	}
	m.Iterator = m.Symbol(text.Val("Symbol.iterator"))
	method := func(proto int, k api.Val, id int, flags int) {
		m.Obj(m.Protos[proto]).Define(k, m.Native(id, "native", 0, false), flags)
	}
	for _, proto := range []int{vm.ArrayProto, vm.StringProto} {
		method(proto, m.Iterator, idWalk, heap.Hidden)
	}
	method(vm.WalkerProto, m.Iterator, idSelf, heap.Hidden)
	method(vm.GeneratorProto, m.Iterator, idSelf, heap.Hidden)
	method(vm.ArrayProto, text.Val("me"), idGetter, heap.Getter|heap.Configurable)
	m.Method(vm.WalkerProto, "next", idNext, 0)
	m.Methods(vm.GeneratorProto, idGenNext, "next1 throw1 return1")
	m.World = m.Scope(len(strings.Fields(globals)), 0)
	copy(m.Env(m.World).Vals, []api.Val{
		{}, {K: api.NaN}, {K: api.Inf, N: 1}, m.Native(idPrint, "print", 0, false), m.Iterator,
		m.Constructor(vm.TypeProto, "TypeError", idError, 1), m.Constructor(vm.ReferenceProto, "ReferenceError", idError, 1),
		m.Native(idEach, "each", 2, false), m.Native(idList, "list", 1, false), m.Native(idError, "fail", 0, false),
		m.Native(idConstruct, "construct", 0, false), m.Native(idJunk, "junk", 0, false), m.Native(idWeak, "keep", 0, false),
	})
	return m
}

var wide = api.Bounds{Fuel: api.MaxFuel, Depth: api.MaxDepth, Cells: api.MaxCells}

// run runs a program in a small world.
func run(t *testing.T, s string, b api.Bounds, script api.Script) (*vm.Machine, api.Val, int) {
	t.Helper()
	n, f := early.Source(s)
	if f.Kind != api.OK {
		t.Fatalf("%s: fault %v", s, f)
	}
	m := world(b, script)
	v, end := m.Run(compile.Compile(n, strings.Fields(globals)))
	return m, v, end
}

// outcome tells how a program ends: with the lines that it prints, and what is behind them.
func outcome(m *vm.Machine, v api.Val, end int) string {
	s := strings.Join(m.Trace, "; ")
	switch end {
	case vm.Fine:
		return s
	case vm.Threw:
		name := "value"
		for i, kind := range map[int]string{vm.TypeProto: "TypeError", vm.ReferenceProto: "ReferenceError"} {
			if o := m.Of(v); o != nil && o.Proto == m.Protos[i] {
				name = kind
			}
		}
		return s + " ! " + name
	}
	return s + " ! end " + string(rune('0'+m.End))
}

// check holds the outcome of a program against what is expected, collected in several ways.
func check(t *testing.T, s, want string) {
	t.Helper()
	steps := -1
	for _, script := range []api.Script{{}, {All: true}, {Gc: []bool{true, false, false, true, true, false, true}}} {
		m, v, end := run(t, s, wide, script)
		if got := outcome(m, v, end); got != want {
			t.Errorf("%s\nended as\n%s\nnot as\n%s", s, got, want)
			return
		}
		if steps >= 0 && m.Steps != steps {
			t.Errorf("%s\ntook %d steps, and %d if it is collected", s, steps, m.Steps)
		}
		steps = m.Steps
		if m.Depth() != 0 {
			t.Errorf("%s\nleft %d roots", s, m.Depth())
		}
	}
}
