package num

import (
	"math"
	"strconv"
	"testing"

	"ossuary/api"
)

const most = api.MaxInt

var (
	notNum = api.Val{K: api.NaN}
	inf    = api.Val{K: api.Inf, N: 1}
	negInf = api.Val{K: api.Inf, N: -1}
	neg0   = api.Val{K: api.NegZero}
	none   = api.Val{}
)

func whole(n int64) api.Val { return api.Val{K: api.Int, N: n} }

func TestInt(t *testing.T) {
	for _, n := range []int64{0, 1, -1, 42, most, -most, most - 1, 1 - most} {
		if v, ok := Int(n); !ok || v != whole(n) {
			t.Errorf("Int(%d) = %v, %v", n, v, ok)
		}
	}
	for _, n := range []int64{most + 1, -most - 1, most + 2, math.MaxInt64, math.MinInt64} {
		if v, ok := Int(n); ok || v != none {
			t.Errorf("Int(%d) = %v, %v", n, v, ok)
		}
	}
}

func TestIs(t *testing.T) {
	for _, v := range samples() {
		if !Is(v) {
			t.Errorf("Is(%v) = false", v)
		}
	}
	for _, v := range []api.Val{
		{}, {K: api.Null}, {K: api.Bool}, {K: api.Bool, N: 1}, {K: api.Str}, {K: api.Str, S: "\x001"},
		{K: api.Sym, N: 1}, {K: api.Obj, N: 1}, {K: api.Empty}, {K: api.Empty + 1}, {K: -1},
		whole(most + 1), whole(-most - 1), {K: api.Inf}, {K: api.Inf, N: 2},
	} {
		if Is(v) {
			t.Errorf("Is(%v) = true", v)
		}
	}
}

func TestNeg(t *testing.T) {
	for _, c := range [][2]api.Val{
		{whole(0), neg0}, {neg0, whole(0)}, {whole(5), whole(-5)}, {whole(-5), whole(5)},
		{whole(most), whole(-most)}, {whole(-most), whole(most)},
		{inf, negInf}, {negInf, inf}, {notNum, notNum},
	} {
		if v := Neg(c[0]); v != c[1] {
			t.Errorf("Neg(%v) = %v", c[0], v)
		}
	}
}

// A row has two operands and the result, which is none if it isn't representable.
type row [3]api.Val

func checkRows(t *testing.T, f func(a, b api.Val) (api.Val, bool), rows []row) {
	t.Helper()
	for _, r := range rows {
		v, ok := f(r[0], r[1])
		if v != r[2] || ok != (r[2] != none) {
			t.Errorf("of %v and %v: %v, %v, not %v", r[0], r[1], v, ok, r[2])
		}
	}
}

func TestAdd(t *testing.T) {
	checkRows(t, Add, []row{
		{whole(2), whole(3), whole(5)},
		{whole(2), whole(-2), whole(0)},
		{whole(-7), whole(3), whole(-4)},
		{neg0, neg0, neg0},
		{neg0, whole(0), whole(0)},
		{whole(0), neg0, whole(0)},
		{whole(0), whole(0), whole(0)},
		{neg0, whole(-4), whole(-4)},
		{whole(4), neg0, whole(4)},
		{notNum, whole(1), notNum},
		{whole(1), notNum, notNum},
		{notNum, inf, notNum},
		{notNum, neg0, notNum},
		{neg0, notNum, notNum},
		{inf, inf, inf},
		{negInf, negInf, negInf},
		{inf, negInf, notNum},
		{negInf, inf, notNum},
		{inf, whole(-most), inf},
		{whole(most), negInf, negInf},
		{neg0, negInf, negInf},
		{inf, neg0, inf},
		{whole(most), whole(0), whole(most)},
		{whole(most - 1), whole(1), whole(most)},
		{whole(1 - most), whole(-1), whole(-most)},
		{whole(most), whole(-most), whole(0)},
		{whole(most), whole(1), none},
		{whole(-1), whole(-most), none},
		{whole(most), whole(most), none},
	})
}

func TestSub(t *testing.T) {
	checkRows(t, Sub, []row{
		{whole(2), whole(3), whole(-1)},
		{whole(3), whole(3), whole(0)},
		{whole(0), whole(0), whole(0)},
		{neg0, whole(0), neg0},
		{neg0, neg0, whole(0)},
		{whole(0), neg0, whole(0)},
		{neg0, whole(3), whole(-3)},
		{whole(3), whole(0), whole(3)},
		{inf, inf, notNum},
		{negInf, negInf, notNum},
		{inf, negInf, inf},
		{negInf, inf, negInf},
		{whole(1), inf, negInf},
		{notNum, whole(1), notNum},
		{inf, notNum, notNum},
		{whole(-most), whole(-most), whole(0)},
		{whole(1 - most), whole(1), whole(-most)},
		{whole(-most), whole(1), none},
		{whole(most), whole(-most), none},
	})
}

func TestMul(t *testing.T) {
	const root = 94906265 // the greatest integer whose square is below MaxInt
	checkRows(t, Mul, []row{
		{whole(6), whole(7), whole(42)},
		{whole(-6), whole(7), whole(-42)},
		{whole(-6), whole(-7), whole(42)},
		{whole(0), whole(-3), neg0},
		{whole(-3), whole(0), neg0},
		{whole(0), whole(3), whole(0)},
		{whole(0), whole(0), whole(0)},
		{neg0, whole(3), neg0},
		{neg0, whole(-3), whole(0)},
		{neg0, neg0, whole(0)},
		{neg0, whole(0), neg0},
		{notNum, whole(0), notNum},
		{whole(2), notNum, notNum},
		{inf, notNum, notNum},
		{inf, whole(0), notNum},
		{neg0, inf, notNum},
		{negInf, neg0, notNum},
		{whole(0), negInf, notNum},
		{inf, whole(-2), negInf},
		{whole(-2), negInf, inf},
		{inf, negInf, negInf},
		{negInf, negInf, inf},
		{whole(most), whole(1), whole(most)},
		{whole(most), whole(-1), whole(-most)},
		{whole(6361), whole(1416003655831), whole(most)},
		{whole(root), whole(root), whole(root * root)},
		{whole(root + 1), whole(root + 1), none},
		{whole(1 << 26), whole(1 << 27), none},
		{whole(-1 << 26), whole(1 << 27), none},
		{whole(1 << 32), whole(1 << 32), none},
		{whole(1 << 32), whole(-1 << 31), none},
		{whole(most), whole(2), none},
		{whole(most), whole(most), none},
	})
}

func TestDiv(t *testing.T) {
	checkRows(t, Div, []row{
		{whole(42), whole(7), whole(6)},
		{whole(-42), whole(7), whole(-6)},
		{whole(42), whole(-7), whole(-6)},
		{whole(-42), whole(-7), whole(6)},
		{whole(7), whole(2), none},
		{whole(1), whole(3), none},
		{whole(-7), whole(2), none},
		{whole(3), whole(7), none},
		{whole(1), whole(most), none},
		{whole(most - 1), whole(most), none},
		{whole(most), whole(-most), whole(-1)},
		{whole(most), whole(-1), whole(-most)},
		{whole(-most), whole(6361), whole(-1416003655831)},
		{whole(0), whole(5), whole(0)},
		{whole(0), whole(-5), neg0},
		{neg0, whole(5), neg0},
		{neg0, whole(-5), whole(0)},
		{whole(1), whole(0), inf},
		{whole(-1), whole(0), negInf},
		{whole(1), neg0, negInf},
		{whole(-1), neg0, inf},
		{whole(0), whole(0), notNum},
		{whole(0), neg0, notNum},
		{neg0, whole(0), notNum},
		{neg0, neg0, notNum},
		{inf, whole(0), inf},
		{inf, neg0, negInf},
		{inf, whole(-2), negInf},
		{negInf, whole(-2), inf},
		{whole(5), inf, whole(0)},
		{whole(-5), inf, neg0},
		{whole(5), negInf, neg0},
		{neg0, negInf, whole(0)},
		{whole(0), negInf, neg0},
		{inf, inf, notNum},
		{negInf, inf, notNum},
		{notNum, whole(1), notNum},
		{whole(0), notNum, notNum},
		{notNum, notNum, notNum},
	})
}

func TestRem(t *testing.T) {
	rem := func(a, b api.Val) (api.Val, bool) { return Rem(a, b), true }
	checkRows(t, rem, []row{
		{whole(7), whole(2), whole(1)},
		{whole(-7), whole(2), whole(-1)},
		{whole(7), whole(-2), whole(1)},
		{whole(-7), whole(-2), whole(-1)},
		{whole(4), whole(2), whole(0)},
		{whole(4), whole(-2), whole(0)},
		{whole(-4), whole(2), neg0},
		{whole(-4), whole(-4), neg0},
		{whole(3), whole(5), whole(3)},
		{whole(-3), whole(5), whole(-3)},
		{whole(most), whole(2), whole(1)},
		{whole(-most), whole(most), neg0},
		{whole(0), whole(5), whole(0)},
		{whole(0), whole(-5), whole(0)},
		{neg0, whole(5), neg0},
		{neg0, whole(-5), neg0},
		{whole(5), inf, whole(5)},
		{whole(-5), negInf, whole(-5)},
		{neg0, inf, neg0},
		{whole(0), negInf, whole(0)},
		{whole(5), whole(0), notNum},
		{whole(5), neg0, notNum},
		{neg0, whole(0), notNum},
		{inf, whole(5), notNum},
		{negInf, inf, notNum},
		{notNum, whole(5), notNum},
		{whole(5), notNum, notNum},
		{notNum, inf, notNum},
		{whole(0), notNum, notNum},
	})
}

func TestLessAndEqual(t *testing.T) {
	rising := []api.Val{negInf, whole(-most), whole(-2), whole(-1), whole(0), whole(1), whole(2), whole(most), inf}
	for i, a := range rising {
		for j, b := range rising {
			checkOrder(t, a, b, i < j, i == j)
		}
		checkOrder(t, a, neg0, i < 4, i == 4)
		checkOrder(t, neg0, a, i > 4, i == 4)
	}
	checkOrder(t, neg0, neg0, false, true)
	for _, v := range append(rising, neg0, notNum) {
		for _, c := range [][2]api.Val{{v, notNum}, {notNum, v}} {
			if less, ok := Less(c[0], c[1]); less || ok || Equal(c[0], c[1]) {
				t.Errorf("%v and %v can be compared", c[0], c[1])
			}
		}
	}
}

func checkOrder(t *testing.T, a, b api.Val, wantLess, wantEqual bool) {
	t.Helper()
	if less, ok := Less(a, b); less != wantLess || !ok {
		t.Errorf("Less(%v, %v) = %v, %v", a, b, less, ok)
	}
	if Equal(a, b) != wantEqual {
		t.Errorf("Equal(%v, %v) = %v", a, b, !wantEqual)
	}
}

func TestText(t *testing.T) {
	for _, c := range []struct {
		v    api.Val
		want string
	}{
		{notNum, "NaN"}, {inf, "Infinity"}, {negInf, "-Infinity"}, {neg0, "0"}, {whole(0), "0"},
		{whole(7), "7"}, {whole(-12), "-12"}, {whole(1000000), "1000000"},
		{whole(most), "9007199254740991"}, {whole(-most), "-9007199254740991"},
	} {
		if s := Text(c.v); s != c.want {
			t.Errorf("Text(%v) = %q", c.v, s)
		}
	}
}

// samples are all special numbers, and integers near 0, near powers of 2 and near the bounds.
func samples() []api.Val {
	l := []api.Val{notNum, inf, negInf, neg0, whole(0)}
	for _, n := range []int64{
		1, 2, 3, 4, 5, 7, 10, 100, 6361, 94906265, 94906266, 1<<26 - 1, 1 << 26, 1<<27 + 1,
		1<<31 - 1, 1 << 32, 1 << 40, 1416003655831, 1<<52 - 1, 1 << 52, most / 3 * 3, most - 1, most,
	} {
		l = append(l, whole(n), whole(-n))
	}
	return l
}

func float(v api.Val) float64 {
	switch v.K {
	case api.NaN:
		return math.NaN()
	case api.Inf:
		return math.Inf(int(v.N))
	case api.NegZero:
		return math.Copysign(0, -1)
	}
	return float64(v.N)
}

// fromFloat returns a float as a value, or none if it isn't representable.
func fromFloat(f float64) api.Val {
	switch {
	case math.IsNaN(f):
		return notNum
	case math.IsInf(f, 0):
		return api.Val{K: api.Inf, N: int64(math.Copysign(1, f))}
	case f == 0 && math.Signbit(f):
		return neg0
	case f != math.Trunc(f) || math.Abs(f) > most:
		return none
	}
	return whole(int64(f))
}

// Floats are an independent model: for operands up to MaxInt, rounding never turns a result that
// isn't representable into one that is.
func TestAgreesWithFloats(t *testing.T) {
	rem := func(a, b api.Val) (api.Val, bool) { return Rem(a, b), true }
	for _, op := range []struct {
		name  string
		f     func(a, b api.Val) (api.Val, bool)
		float func(x, y float64) float64
	}{
		{"Add", Add, func(x, y float64) float64 { return x + y }},
		{"Sub", Sub, func(x, y float64) float64 { return x - y }},
		{"Mul", Mul, func(x, y float64) float64 { return x * y }},
		{"Div", Div, func(x, y float64) float64 { return x / y }},
		{"Rem", rem, math.Mod},
	} {
		for _, a := range samples() {
			for _, b := range samples() {
				want := fromFloat(op.float(float(a), float(b)))
				if v, ok := op.f(a, b); v != want || ok != (want != none) {
					t.Errorf("%s(%v, %v) = %v, %v, not %v", op.name, a, b, v, ok, want)
				}
			}
		}
	}
}

func TestComparesLikeFloats(t *testing.T) {
	for _, a := range samples() {
		if v := Neg(a); v != fromFloat(-float(a)) {
			t.Errorf("Neg(%v) = %v", a, v)
		}
		for _, b := range samples() {
			x, y := float(a), float(b)
			if less, ok := Less(a, b); less != (x < y) || ok != (x < y || x >= y) {
				t.Errorf("Less(%v, %v) = %v, %v", a, b, less, ok)
			}
			if Equal(a, b) != (x == y) {
				t.Errorf("Equal(%v, %v) = %v", a, b, x != y)
			}
		}
	}
}

// Results are numbers again, in the one form that each number has.
func TestResultsAreNumbers(t *testing.T) {
	for _, a := range samples() {
		for _, b := range samples() {
			for i, f := range []func(a, b api.Val) (api.Val, bool){Add, Sub, Mul, Div} {
				if v, ok := f(a, b); ok != Is(v) {
					t.Errorf("operator %d of %v and %v: %v, %v", i, a, b, v, ok)
				}
			}
			if v := Rem(a, b); !Is(v) {
				t.Errorf("Rem(%v, %v) = %v", a, b, v)
			}
		}
	}
}

// No call panics, not even for what is no number.
func TestNeverPanics(t *testing.T) {
	odd := samples()
	for k := -1; k <= api.Empty+1; k++ {
		for _, n := range []int64{0, 1, -1, 2, most + 1, -most - 1, math.MaxInt64, math.MinInt64} {
			odd = append(odd, api.Val{K: k, N: n}, api.Val{K: k, N: n, S: "\x00a"})
		}
	}
	for _, a := range odd {
		for _, b := range odd {
			callAll(t, a, b)
		}
	}
}

func callAll(t *testing.T, a, b api.Val) {
	defer func() {
		if r := recover(); r != nil {
			t.Errorf("panic for %v and %v: %v", a, b, r)
		}
	}()
	Int(a.N)
	Is(a)
	Neg(a)
	Add(a, b)
	Sub(a, b)
	Mul(a, b)
	Div(a, b)
	Rem(a, b)
	Less(a, b)
	Equal(a, b)
	Text(a)
}

func TestTextIsDecimal(t *testing.T) {
	for _, v := range samples() {
		if v.K != api.Int {
			continue
		}
		if n, err := strconv.ParseInt(Text(v), 10, 64); err != nil || n != v.N {
			t.Errorf("Text(%v) = %q", v, Text(v))
		}
	}
}
