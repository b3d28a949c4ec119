package value

import (
	"strings"
	"testing"

	"ossuary/api"
	"ossuary/num"
	"ossuary/text"
)

var (
	undef  = api.Val{}
	null   = api.Val{K: api.Null}
	yes    = api.Val{K: api.Bool, N: 1}
	no     = api.Val{K: api.Bool}
	notNum = api.Val{K: api.NaN}
	inf    = api.Val{K: api.Inf, N: 1}
	negInf = api.Val{K: api.Inf, N: -1}
	neg0   = api.Val{K: api.NegZero}
	empty  = api.Val{K: api.Empty}
	sym    = api.Val{K: api.Sym, N: 3}
	obj    = api.Val{K: api.Obj, N: 3}
)

func whole(n int64) api.Val { return api.Val{K: api.Int, N: n} }

func str(s string) api.Val { return text.Val(s) }

func samples() []api.Val {
	return []api.Val{
		undef, null, yes, no, whole(0), whole(1), whole(-1), whole(3), whole(api.MaxInt), whole(-api.MaxInt),
		notNum, inf, negInf, neg0, str(""), str("0"), str("a"), str("b"), str("ab"), str("NaN"), str("undefined"),
		sym, Symbol(4), obj, Object(4), empty, whole(1 << 40),
	}
}

func TestMakers(t *testing.T) {
	for _, c := range [][2]api.Val{{Truth(true), yes}, {Truth(false), no}, {Object(3), obj}, {Symbol(3), sym}} {
		if c[0] != c[1] {
			t.Errorf("%v, not %v", c[0], c[1])
		}
	}
}

func TestKindsOfValues(t *testing.T) {
	for _, v := range samples() {
		ref := 0
		if v.K == api.Obj || v.K == api.Sym {
			ref = int(v.N)
		}
		if Ref(v) != ref {
			t.Errorf("Ref(%v) = %d", v, Ref(v))
		}
		if IsObj(v) != (v.K == api.Obj) {
			t.Errorf("IsObj(%v) = %v", v, IsObj(v))
		}
		if Nullish(v) != (v == undef || v == null) {
			t.Errorf("Nullish(%v) = %v", v, Nullish(v))
		}
		falsy := v == undef || v == null || v == no || v == whole(0) || v == neg0 || v == notNum || v == str("") || v == empty
		if True(v) == falsy {
			t.Errorf("True(%v) = %v", v, True(v))
		}
	}
}

func TestEquality(t *testing.T) {
	zeros := func(a, b api.Val) bool { return a == whole(0) && b == neg0 || a == neg0 && b == whole(0) }
	for _, a := range samples() {
		for _, b := range samples() {
			same := a.K == b.K && a.N == b.N && a.S == b.S
			if got := Same(a, b); got != same {
				t.Errorf("Same(%v, %v) = %v", a, b, got)
			}
			if got := SameZero(a, b); got != (same || zeros(a, b)) {
				t.Errorf("SameZero(%v, %v) = %v", a, b, got)
			}
			strict := (same || zeros(a, b)) && a != notNum
			if got := Strict(a, b); got != strict {
				t.Errorf("Strict(%v, %v) = %v", a, b, got)
			}
			if SameZero(a, b) && Hash(a) != Hash(b) {
				t.Errorf("Hash(%v) = %d, Hash(%v) = %d", a, Hash(a), b, Hash(b))
			}
		}
		want := a
		if a == neg0 {
			want = whole(0)
		}
		if Key(a) != want {
			t.Errorf("Key(%v) = %v", a, Key(a))
		}
	}
}

// A constant hash would be allowed, but tables would be slow.
func TestHashSpreads(t *testing.T) {
	low := map[uint32]bool{}
	for n := range 1000 {
		low[Hash(whole(int64(n)))%1024] = true
		low[Hash(Object(n))%1024] = true
	}
	if len(low) < 700 {
		t.Errorf("only %d different low bits", len(low))
	}
}

func TestNumber(t *testing.T) {
	for _, v := range samples() {
		want, how := api.Val{}, Hard
		switch {
		case num.Is(v):
			want, how = v, OK
		case v == undef:
			want, how = notNum, OK
		case v == null, v == no:
			want, how = whole(0), OK
		case v == yes:
			want, how = whole(1), OK
		case v.K == api.Sym:
			how = Throw
		}
		if got, h := Number(v); got != want || h != how {
			t.Errorf("Number(%v) = %v, %d", v, got, h)
		}
	}
}

func TestTextAndProperty(t *testing.T) {
	for _, c := range []struct {
		v    api.Val
		want string
		how  int
	}{
		{undef, "undefined", OK}, {null, "null", OK}, {yes, "true", OK}, {no, "false", OK},
		{whole(0), "0", OK}, {whole(-12), "-12", OK}, {whole(api.MaxInt), "9007199254740991", OK},
		{notNum, "NaN", OK}, {inf, "Infinity", OK}, {negInf, "-Infinity", OK}, {neg0, "0", OK},
		{str(""), "", OK}, {str("aé"), "aé", OK}, {sym, "", Throw}, {obj, "", Hard}, {empty, "", Hard},
	} {
		if s, how := Text(c.v); s != text.Of(c.want) || how != c.how {
			t.Errorf("Text(%v) = %x, %d", c.v, s, how)
		}
		want, how := api.Val{}, c.how
		if how == OK {
			want = str(c.want)
		}
		if c.v == sym {
			want, how = sym, OK
		}
		if v, h := Property(c.v); v != want || h != how {
			t.Errorf("Property(%v) = %v, %d", c.v, v, h)
		}
	}
}

type row struct {
	a    api.Val
	op   string
	b    api.Val
	want api.Val
	how  int
}

func checkRows(t *testing.T, rows []row) {
	t.Helper()
	for _, r := range rows {
		if v, how := Binary(r.op, r.a, r.b); v != r.want || how != r.how {
			t.Errorf("%v %s %v = %v, %d, not %v, %d", r.a, r.op, r.b, v, how, r.want, r.how)
		}
	}
}

func TestPlus(t *testing.T) {
	long := str(strings.Repeat("x", api.MaxText))
	checkRows(t, []row{
		{str("a"), "+", whole(1), str("a1"), OK}, {whole(1), "+", str("a"), str("1a"), OK},
		{str("a"), "+", str("b"), str("ab"), OK}, {str(""), "+", undef, str("undefined"), OK},
		{null, "+", str("x"), str("nullx"), OK}, {yes, "+", str(""), str("true"), OK}, {neg0, "+", str(""), str("0"), OK},
		{str("a"), "+", sym, undef, Throw}, {sym, "+", str("a"), undef, Throw},
		{str("a"), "+", obj, undef, Hard}, {obj, "+", str("a"), undef, Hard}, {str("a"), "+", empty, undef, Hard},
		{long, "+", str(""), long, OK}, {long, "+", str("y"), undef, Hard}, {whole(1), "+", long, undef, Hard},
		{whole(1), "+", whole(2), whole(3), OK}, {undef, "+", whole(2), notNum, OK}, {null, "+", yes, whole(1), OK},
		{neg0, "+", neg0, neg0, OK}, {whole(api.MaxInt), "+", whole(1), undef, Hard},
		{sym, "+", obj, undef, Throw}, {obj, "+", sym, undef, Hard}, {whole(1), "+", sym, undef, Throw},
	})
}

func TestArithmetic(t *testing.T) {
	checkRows(t, []row{
		{whole(7), "-", whole(9), whole(-2), OK}, {yes, "-", null, whole(1), OK}, {undef, "-", whole(1), notNum, OK},
		{whole(7), "*", whole(9), whole(63), OK}, {whole(0), "*", whole(-1), neg0, OK},
		{whole(8), "/", whole(2), whole(4), OK}, {whole(7), "/", whole(2), undef, Hard}, {whole(1), "/", neg0, negInf, OK},
		{whole(7), "%", whole(4), whole(3), OK}, {whole(-4), "%", whole(2), neg0, OK}, {whole(4), "%", whole(0), notNum, OK},
		{str("1"), "-", whole(1), undef, Hard}, {whole(1), "*", str("1"), undef, Hard}, {str("a"), "-", sym, undef, Hard},
		{sym, "-", str("a"), undef, Throw}, {obj, "/", whole(1), undef, Hard}, {whole(1), "%", obj, undef, Hard},
		{empty, "-", whole(1), undef, Hard}, {whole(1), "-", empty, undef, Hard},
		{whole(-api.MaxInt), "-", whole(1), undef, Hard}, {whole(1 << 40), "*", whole(1 << 40), undef, Hard},
	})
}

func TestOrder(t *testing.T) {
	cases := []struct {
		a, b           api.Val
		lt, gt, le, ge bool
	}{
		{whole(1), whole(2), true, false, true, false}, {whole(2), whole(1), false, true, false, true},
		{whole(2), whole(2), false, false, true, true}, {whole(0), neg0, false, false, true, true},
		{notNum, whole(1), false, false, false, false}, {whole(1), notNum, false, false, false, false},
		{undef, whole(1), false, false, false, false}, {undef, undef, false, false, false, false},
		{null, yes, true, false, true, false}, {null, whole(0), false, false, true, true},
		{negInf, whole(-api.MaxInt), true, false, true, false}, {inf, whole(api.MaxInt), false, true, false, true},
		{str("a"), str("b"), true, false, true, false}, {str("b"), str("a"), false, true, false, true},
		{str("a"), str("a"), false, false, true, true}, {str("10"), str("9"), true, false, true, false},
		{str(""), str("a"), true, false, true, false},
	}
	for _, c := range cases {
		checkRows(t, []row{
			{c.a, "<", c.b, Truth(c.lt), OK}, {c.a, ">", c.b, Truth(c.gt), OK},
			{c.a, "<=", c.b, Truth(c.le), OK}, {c.a, ">=", c.b, Truth(c.ge), OK},
		})
	}
	for _, op := range []string{"<", ">", "<=", ">="} {
		checkRows(t, []row{
			{str("a"), op, whole(1), undef, Hard}, {whole(1), op, str("a"), undef, Hard},
			{sym, op, str("a"), undef, Throw}, {str("a"), op, sym, undef, Hard}, {whole(1), op, sym, undef, Throw},
			{obj, op, obj, undef, Hard}, {whole(1), op, empty, undef, Hard}, {notNum, op, sym, undef, Throw},
		})
	}
}

func TestStrictOperators(t *testing.T) {
	for _, a := range samples() {
		for _, b := range samples() {
			checkRows(t, []row{
				{a, "===", b, Truth(Strict(a, b)), OK}, {a, "!==", b, Truth(!Strict(a, b)), OK},
			})
		}
	}
}

func TestOtherOperators(t *testing.T) {
	for _, op := range []string{"", "==", "**", "&&", "in", "\x00+"} {
		checkRows(t, []row{
			{whole(1), op, whole(2), undef, Hard}, {sym, op, whole(1), undef, Throw}, {whole(1), op, sym, undef, Throw},
			{str("a"), op, sym, undef, Hard}, {str("a"), op, str("b"), undef, Hard}, {sym, op, str("a"), undef, Throw},
		})
	}
}

// P0: no call panics, not even for values that there can't be.
func TestNoCallPanics(t *testing.T) {
	l := append(samples(), api.Val{K: -1}, api.Val{K: 99, N: -1 << 63}, api.Val{K: api.Int, N: -1 << 63},
		api.Val{K: api.Inf}, api.Val{K: api.Str, S: "\x00"}, api.Val{K: api.Bool, N: 7})
	for _, a := range l {
		Key(a)
		Hash(a)
		Number(a)
		Property(a)
		for _, b := range l {
			for _, op := range []string{"+", "-", "*", "/", "%", "<", ">", "<=", ">=", "===", "!==", "?"} {
				Binary(op, a, b)
			}
		}
	}
}

func TestStatuses(t *testing.T) {
	if OK != 0 || Throw != 1 || Hard != 2 {
		t.Errorf("the statuses are %d, %d, %d", OK, Throw, Hard)
	}
}
