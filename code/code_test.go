package code

import (
	"math"
	"strings"
	"testing"

	"ossuary/api"
)

func whole(n int64) api.Val { return api.Val{K: api.Int, N: n} }

func TestOperators(t *testing.T) {
	l := []string{"+", "-", "*", "/", "%", "<", ">", "<=", ">=", "===", "!=="}
	for i, s := range l {
		if Operator(i) != s || Operators(s) != i {
			t.Errorf("%d is %q, %q is %d", i, Operator(i), s, Operators(s))
		}
	}
	for _, n := range []int{-1, len(l), math.MaxInt, math.MinInt} {
		if Operator(n) != "" {
			t.Errorf("%d is %q", n, Operator(n))
		}
	}
	for _, s := range []string{"", "==", "&&", "in", " +", "+ ", "+ -", "\xff"} {
		if Operators(s) != -1 {
			t.Errorf("%q is %d", s, Operators(s))
		}
	}
}

func TestNumbersOfOperations(t *testing.T) {
	const all = "Const, Undef, Null, True, False, Pop, Dup, Swap, Pick, Rot, Get, Set, Init, Unknown, Locked, Enter, Leave, Again, Prop, Index, PutProp, PutIndex, DelProp, DelIndex, SuperProp, Binary, Neg, Plus, Not, Typeof, Number, Inc, Dec, In, Instance, Jump, JumpIf, JumpNo, And, Or, Else, Object, Array, Push, Hole, PushAll, OwnIndex, Merge, MethodIndex, Closure, Class, Member, Call, CallAll, New, NewAll, Super, SuperAll, Above, This, Return, Throw, Try, Finish, EndTry, Ended, Resume, Loop, Mark, EndLoop, Break, Continue, Open, Next, Step, Rest, Close, Shut, Need, Note, Others, Arg, Args, Yield, Delegate, Point, Pick2, Name"
	l := strings.Split(all, ", ")
	if Name != len(l) {
		t.Fatalf("the last operation is %d, not %d", Name, len(l))
	}
	for i, name := range l {
		if got := (Ins{Op: i + 1}).Show(); got != name+" 0 0" {
			t.Errorf("the operation %d is shown as %s, not as %s", i+1, got, name)
		}
	}
}

func TestShowOfInstructions(t *testing.T) {
	seen := map[string]Ins{}
	l := []int{-1, 0, 1, 2, 10, 11, 87, 88, 89, 100, math.MaxInt, math.MinInt}
	for _, op := range l {
		for _, a := range l {
			for _, b := range l {
				x := Ins{op, a, b}
				s := x.Show()
				if other, ok := seen[s]; ok || s == "" || s != (Ins{op, a, b}).Show() {
					t.Errorf("%v and %v are shown as %q", x, other, s)
				}
				seen[s] = x
			}
		}
	}
}

func TestConstantAndEmit(t *testing.T) {
	var f Func
	l := []api.Val{{}, whole(0), {K: api.NegZero}, whole(1), {K: api.Str, S: ""}, {K: api.Str, S: "\x00a"}, {K: api.NaN}, {K: api.Bool, N: 1}, {K: api.Empty}}
	for range 2 {
		for i, v := range l {
			if got := f.Constant(v); got != i {
				t.Errorf("Constant(%v) = %d, not %d", v, got, i)
			}
		}
	}
	if len(f.Consts) != len(l) || f.Consts[3] != whole(1) {
		t.Errorf("constants %v", f.Consts)
	}
	if f.Emit(Const, 3, -7) != 0 || f.Emit(-5, 0, 0) != 1 || f.Emit(Return, 0, 0) != 2 || f.Ins[0] != (Ins{Const, 3, -7}) || len(f.Ins) != 3 {
		t.Errorf("instructions %v", f.Ins)
	}
}

// sample is valid code that has something of everything.
func sample() *Func {
	inner := &Func{Name: "g", Ins: []Ins{{Return, 0, 0}}}
	return &Func{
		Name: "f", Params: 1, Bindings: 2, Generator: true, Arrow: true, Method: true, Class: true, Heir: true,
		Ins:    []Ins{{Const, 1, 0}, {Jump, 2, 0}, {Closure, 0, 0}, {Return, 0, 0}},
		Consts: []api.Val{whole(1), {K: api.Str, S: "\x00a"}},
		Funcs:  []*Func{inner, {Ins: []Ins{{Return, 0, 0}}}},
	}
}

func TestShowOfFunctions(t *testing.T) {
	changes := []func(f *Func){
		func(f *Func) {},
		func(f *Func) { f.Name = "f2" }, func(f *Func) { f.Name = "" }, func(f *Func) { f.Name = "f\" 1 2" }, func(f *Func) { f.Name = "\xff" }, func(f *Func) { f.Name = "\uFFFD" }, func(f *Func) { f.Name = "f\n" },
		func(f *Func) { f.Params = 2 }, func(f *Func) { f.Bindings = 3 }, func(f *Func) { f.Params, f.Bindings = 12, 0 },
		func(f *Func) { f.Generator = false }, func(f *Func) { f.Arrow = false }, func(f *Func) { f.Method = false }, func(f *Func) { f.Class = false }, func(f *Func) { f.Heir = false },
		func(f *Func) { f.Ins[1].A = -1 }, func(f *Func) { f.Ins[1].B = 1 }, func(f *Func) { f.Ins[1].Op = JumpIf }, func(f *Func) { f.Ins = f.Ins[1:] }, func(f *Func) { f.Ins[0], f.Ins[2] = f.Ins[2], f.Ins[0] },
		func(f *Func) { f.Consts[0] = whole(2) }, func(f *Func) { f.Consts[0].K = api.Bool }, func(f *Func) { f.Consts[1].S = "\x00b" }, func(f *Func) { f.Consts[1].S = "\x00a\x00\n" }, func(f *Func) { f.Consts = append(f.Consts, api.Val{}) }, func(f *Func) { f.Consts[0], f.Consts[1] = f.Consts[1], f.Consts[0] },
		func(f *Func) { f.Funcs = f.Funcs[:1] }, func(f *Func) { f.Funcs[0].Name = "h" }, func(f *Func) { f.Funcs[0].Funcs = f.Funcs[1:]; f.Funcs = f.Funcs[:1] }, func(f *Func) { f.Funcs[0], f.Funcs[1] = f.Funcs[1], f.Funcs[0] }, func(f *Func) { f.Funcs[1].Consts = []api.Val{{}} },
	}
	seen := map[string]int{}
	for i, change := range changes {
		f := sample()
		change(f)
		again := sample()
		change(again)
		if !f.Right() {
			t.Errorf("change %d isn't valid", i)
		}
		if other, ok := seen[f.Show()]; ok || f.Show() != again.Show() {
			t.Errorf("the changes %d and %d are shown as %q", i, other, f.Show())
		}
		seen[f.Show()] = i
	}
}

func TestRight(t *testing.T) {
	if !sample().Right() || !(&Func{Ins: []Ins{{Return, 5, 5}}}).Right() {
		t.Error("valid code isn't")
	}
	for i, change := range []func(f *Func){
		func(f *Func) { f.Ins = nil }, func(f *Func) { f.Ins = f.Ins[:3] }, func(f *Func) { f.Ins[3].Op = Throw }, func(f *Func) { f.Funcs[1].Ins = nil }, func(f *Func) { f.Funcs[0].Ins[0].Op = 0 }, func(f *Func) { f.Funcs[0] = nil }, func(f *Func) { f.Consts = f.Consts[:1] },
		func(f *Func) { f.Funcs[1].Funcs = []*Func{{}} },
	} {
		f := sample()
		change(f)
		if f.Right() {
			t.Errorf("the change %d is valid", i)
		}
	}
}

// What A and B may be, for each operation: code of 4 instructions has 2 constants and 2 functions.
func TestRightOfInstructions(t *testing.T) {
	targets := []int{Jump, JumpIf, JumpNo, And, Or, Else, Try, Finish, Next, Loop}
	constants := []int{Const, Unknown, Locked, Prop, PutProp, DelProp, SuperProp, Name}
	within := func(l []int, op int) bool {
		for _, x := range l {
			if x == op {
				return true
			}
		}
		return false
	}
	numbers := []int{math.MinInt, -2, -1, 0, 1, 2, 3, 4, 5, math.MaxInt}
	for op := -3; op < Name+4; op++ {
		for _, a := range numbers {
			for _, b := range numbers {
				f := sample()
				f.Ins[1] = Ins{op, a, b}
				want := op >= Const && op <= Name
				switch {
				case within(targets, op):
					want = a >= -1 && a <= 3 && (op != Loop || b >= -1 && b <= 3)
				case within(constants, op), op == Closure:
					want = a == 0 || a == 1
				}
				if got := f.Right(); got != want {
					t.Fatalf("%v: %v", f.Ins[1], got)
				}
			}
		}
	}
}

func TestNil(t *testing.T) {
	var f *Func
	if f.Right() || f.Constant(whole(1)) != -1 || f.Emit(Return, 0, 0) != -1 || f.Show() == sample().Show() {
		t.Error("nil is code")
	}
}
