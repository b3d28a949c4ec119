package promise_test

import (
	"strings"
	"testing"

	"ossuary/api"
	"ossuary/basic"
	"ossuary/compile"
	"ossuary/early"
	"ossuary/heap"
	"ossuary/list"
	"ossuary/promise"
	"ossuary/show"
	"ossuary/text"
	"ossuary/value"
	"ossuary/vm"
)

// A host has the layers up to this one.
type host struct{}

func (host) Native(m *vm.Machine, id int, c vm.Call) (api.Val, int) {
	switch {
	case id >= list.First && id <= list.Last:
		return list.Do(m, id, c)
	case id >= basic.First && id <= basic.Last:
		return basic.Do(m, id, c)
	case id >= promise.First && id <= promise.Last:
		return promise.Do(m, id, c)
	}
	return api.Val{}, vm.Fine
}

func names() []string { return strings.Fields(list.Names + " " + basic.Names + " " + promise.Names) }

// world makes a machine with these layers.
func world(b api.Bounds, s api.Script) *vm.Machine {
	m := vm.New(host{}, b, s)
	for i := range m.Protos {
		m.Protos[i], _ = m.Make(heap.Plain, m.Protos[vm.ObjectProto])
	}
	m.Iterator = m.Symbol(text.Val("Symbol.iterator"))
	var values []api.Val
	values = append(values, list.World(m)...)
	values = append(values, basic.World(m)...)
	values = append(values, promise.World(m)...)
	m.World = m.Scope(len(values), 0)
	copy(m.Env(m.World).Vals, values)
	return m
}

var wide = api.Bounds{Fuel: api.MaxFuel, Depth: api.MaxDepth, Cells: api.MaxCells}

// run runs a program and its jobs in the world of these layers.
func run(t *testing.T, s string, b api.Bounds, script api.Script) (*vm.Machine, api.Val, int) {
	t.Helper()
	n, f := early.Source(s)
	if f.Kind != api.OK {
		t.Fatalf("%s: fault %v", s, f)
	}
	m := world(b, script)
	v, end := m.Run(compile.Compile(n, names()))
	for end == vm.Fine && len(m.Jobs) > 0 && m.Point() {
		j := m.Jobs[0]
		m.Jobs = m.Jobs[1:]
		v, end = promise.Run(m, j)
	}
	return m, v, end
}

// outcome tells how a program ends: with the lines that it prints, and what is behind them.
func outcome(m *vm.Machine, v api.Val, end int) string {
	s := strings.Join(m.Trace, "; ")
	switch end {
	case vm.Fine:
		return s
	case vm.Threw:
		return s + " ! " + show.Show(m, v)
	}
	return s + " ! end " + string(rune('0'+m.End))
}

// check holds the outcome of a program against what is expected, collected in several ways.
func check(t *testing.T, s, want string) {
	t.Helper()
	steps := -1
	for _, script := range []api.Script{{}, {All: true}, {Gc: []bool{true, false, false, true, true, false, true}}} {
		m, v, end := run(t, s, wide, script)
		if got := outcome(m, v, end); got != want {
			t.Errorf("%s\nended as\n%s\nnot as\n%s", s, got, want)
			return
		}
		if steps >= 0 && m.Steps != steps {
			t.Errorf("%s\ntook %d steps, and %d if it is collected", s, steps, m.Steps)
		}
		steps = m.Steps
		if m.Depth() != 0 {
			t.Errorf("%s\nleft %d roots", s, m.Depth())
		}
	}
}

func whole(n int) api.Val { return api.Val{K: api.Int, N: int64(n)} }

// method calls a method of a value.
func method(t *testing.T, m *vm.Machine, v api.Val, name string, args ...api.Val) (api.Val, int) {
	t.Helper()
	f, end := m.Member(v, name)
	if end != vm.Fine {
		t.Fatalf("%v has no %s", v, name)
	}
	return m.Call(f, v, args)
}

// ref is the cell of a value.
func ref(v api.Val) int { return value.Ref(v) }
