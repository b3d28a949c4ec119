// Package num is layer 1: integers, NaN, the infinities and -0 (see shared/doc/01-num.md).
package num

import (
	"strconv"

	"ossuary/api"
)

// Int returns n as a value, or false if it is beyond MaxInt.
func Int(n int64) (api.Val, bool) {
	if n < -api.MaxInt || n > api.MaxInt {
		return api.Val{}, false
	}
	return integer(n), true
}

// Is reports whether a value is a number.
func Is(v api.Val) bool {
	switch v.K {
	case api.Int:
		return v.N >= -api.MaxInt && v.N <= api.MaxInt
	case api.Inf:
		return v.N == 1 || v.N == -1
	}
	return v.K == api.NaN || v.K == api.NegZero
}

// Neg returns a number with the opposite sign.
func Neg(v api.Val) api.Val {
	switch v.K {
	case api.NegZero:
		return integer(0)
	case api.Int:
		if v.N == 0 {
			return api.Val{K: api.NegZero}
		}
		return integer(-v.N)
	case api.Inf:
		return api.Val{K: api.Inf, N: -v.N}
	}
	return v
}

// Add returns a sum, or false if it isn't representable.
func Add(a, b api.Val) (api.Val, bool) {
	switch {
	case isNaN(a) || isNaN(b) || isInf(a) && isInf(b) && a != b:
		return nan(), true
	case isInf(a) || b.K == api.NegZero:
		return a, true
	case isInf(b) || a.K == api.NegZero:
		return b, true
	}
	return Int(a.N + b.N)
}

// Sub returns a difference, or false if it isn't representable.
func Sub(a, b api.Val) (api.Val, bool) { return Add(a, Neg(b)) }

// Mul returns a product, or false if it isn't representable.
func Mul(a, b api.Val) (api.Val, bool) {
	minus := isNegative(a) != isNegative(b)
	switch {
	case isNaN(a) || isNaN(b) || isInf(a) && isZero(b) || isZero(a) && isInf(b):
		return nan(), true
	case isInf(a) || isInf(b):
		return infinity(minus), true
	case isZero(a) || isZero(b):
		return zero(minus), true
	// The product may overflow an int64, so the bound is held against a quotient.
	case magnitude(a) > api.MaxInt/magnitude(b):
		return api.Val{}, false
	}
	return integer(a.N * b.N), true
}

// Div returns a quotient, or false if it isn't representable.
func Div(a, b api.Val) (api.Val, bool) {
	minus := isNegative(a) != isNegative(b)
	switch {
	case isNaN(a) || isNaN(b) || isInf(a) && isInf(b) || isZero(a) && isZero(b):
		return nan(), true
	case isInf(a) || isZero(b):
		return infinity(minus), true
	case isInf(b) || isZero(a):
		return zero(minus), true
	case a.N%b.N != 0:
		return api.Val{}, false
	}
	return integer(a.N / b.N), true
}

// Rem returns the remainder of the quotient rounded toward 0, with the sign of a.
func Rem(a, b api.Val) api.Val {
	switch {
	case isNaN(a) || isNaN(b) || isInf(a) || isZero(b):
		return nan()
	case isInf(b) || isZero(a):
		return a
	case a.N%b.N == 0:
		return zero(isNegative(a))
	}
	return integer(a.N % b.N)
}

// Less reports whether a is less than b, and whether they can be compared (NaN can't).
func Less(a, b api.Val) (bool, bool) {
	if isNaN(a) || isNaN(b) {
		return false, false
	}
	return rank(a) < rank(b), true
}

// Equal reports whether two numbers are equal: NaN never is, 0 and -0 are.
func Equal(a, b api.Val) bool {
	return !isNaN(a) && !isNaN(b) && rank(a) == rank(b)
}

// Text returns a number as a text.
func Text(v api.Val) string {
	switch v.K {
	case api.NaN:
		return "NaN"
	case api.Inf:
		if v.N < 0 {
			return "-Infinity"
		}
		return "Infinity"
	case api.NegZero:
		return "0"
	}
	return strconv.FormatInt(v.N, 10)
}

func integer(n int64) api.Val { return api.Val{K: api.Int, N: n} }

func nan() api.Val { return api.Val{K: api.NaN} }

func infinity(minus bool) api.Val {
	if minus {
		return api.Val{K: api.Inf, N: -1}
	}
	return api.Val{K: api.Inf, N: 1}
}

func zero(minus bool) api.Val {
	if minus {
		return api.Val{K: api.NegZero}
	}
	return integer(0)
}

// isNaN also holds for what isn't a number, so that no call divides by its N or overflows.
func isNaN(v api.Val) bool { return v.K == api.NaN || !Is(v) }

func isInf(v api.Val) bool { return v.K == api.Inf }

func isZero(v api.Val) bool { return v.K == api.NegZero || v.K == api.Int && v.N == 0 }

func isNegative(v api.Val) bool { return v.K == api.NegZero || v.N < 0 }

func magnitude(v api.Val) int64 { return max(v.N, -v.N) }

// rank orders all numbers but NaN: both zeros are 0, and the infinities lie beyond MaxInt.
func rank(v api.Val) int64 {
	if v.K == api.Inf {
		return v.N * (api.MaxInt + 1)
	}
	return v.N
}
