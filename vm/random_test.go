package vm_test

import (
	"math/rand"
	"testing"

	"ossuary/api"
	"ossuary/code"
	"ossuary/text"
)

// randomCode makes valid code that no compiler makes.
func randomCode(rnd *rand.Rand, depth int) *code.Func {
	f := &code.Func{Params: rnd.Intn(3), Bindings: rnd.Intn(3), Consts: []api.Val{whole(0), text.Val("x"), text.Val("length"), text.Val("next"), {K: api.NaN}, text.Val("prototype")}}
	for _, flag := range []*bool{&f.Generator, &f.Arrow, &f.Method, &f.Class, &f.Heir} {
		*flag = rnd.Intn(4) == 0
	}
	for range rnd.Intn(4 - depth) {
		f.Funcs = append(f.Funcs, randomCode(rnd, depth+1))
	}
	n := 1 + rnd.Intn(40)
	for range n {
		x := code.Ins{Op: 1 + rnd.Intn(code.Name), A: rnd.Intn(n+2) - 1, B: rnd.Intn(n+2) - 1}
		switch x.Op {
		case code.Const, code.Unknown, code.Locked, code.Prop, code.PutProp, code.DelProp, code.SuperProp, code.Name:
			x.A = rnd.Intn(len(f.Consts))
		case code.Closure:
			x.A = rnd.Intn(len(f.Funcs) + 1)
		case code.Get, code.Set, code.Init, code.Call, code.New, code.Super, code.Pick, code.Rot, code.Others:
			x.A, x.B = rnd.Intn(5)-1, rnd.Intn(13)-1
		}
		if x.Op == code.Closure && x.A == len(f.Funcs) {
			x = code.Ins{Op: code.Dup}
		}
		f.Ins = append(f.Ins, x)
	}
	f.Emit(code.Return, 0, 0)
	return f
}

// P0: any valid code is executed to some end, within its steps.
func TestRandomCode(t *testing.T) {
	rnd := rand.New(rand.NewSource(13))
	for range 20000 {
		f := randomCode(rnd, 0)
		if !f.Right() {
			t.Fatalf("not valid:\n%s", f.Show())
		}
		m := world(api.Bounds{Fuel: 600, Depth: 20, Cells: 600}, api.Script{All: rnd.Intn(2) == 0})
		m.Run(f)
		if m.Steps > 600 {
			t.Fatalf("%d steps:\n%s", m.Steps, f.Show())
		}
	}
}
