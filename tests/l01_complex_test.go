package tests

import (
	"fmt"
	"math"
	"testing"

	"loop.example/g01364/impl"
)

func TestPromise2ProductsOfSmallIntegers(t *testing.T) {
	for a := -6; a <= 6; a++ {
		for b := -6; b <= 6; b++ {
			for c := -6; c <= 6; c++ {
				for d := -6; d <= 6; d++ {
					got := impl.MulComplex(complex(float32(a), float32(b)), complex(float32(c), float32(d)))
					if real(got) != float32(a*c-b*d) || imag(got) != float32(a*d+b*c) {
						t.Fatalf("(%d %d) (%d %d): got %v", a, b, c, d, got)
					}
				}
			}
		}
	}
	for _, n := range []int{2047, 2048, -2895} {
		x := complex(float32(n), float32(n-1))
		wantComplex(t, fmt.Sprintf("the square of %d and one less", n), impl.MulComplex(x, x), complex(float32(2*n-1), float32(2*n*(n-1))))
		wantNumber(t, fmt.Sprintf("the power of %d", n), impl.PowerOf(complex(float32(n), 0)), float32(n*n))
	}
}

func TestPromise2MulComplex(t *testing.T) {
	wantComplex(t, "the example", impl.MulComplex(complex(1, 2), complex(3, -1)), complex(5, 5))
	// In 32-bit numbers, both products would be 16785408.
	wantComplex(t, "exact products", impl.MulComplex(complex(4097, 4096), complex(4097, 4098)), complex(1, 33570816))
	wantComplex(t, "products beyond 32 bits", impl.MulComplex(complex(3e38, 3e38), complex(3e38, 3e38)), pair(plusZero, plusInf))
	wantComplex(t, "subnormal results", impl.MulComplex(complex(0x1p-100, 0), complex(0x1p-49, 0x1p-50)), pair(least, plusZero))
	wantComplex(t, "zeros", impl.MulComplex(pair(minusZero, plusZero), complex(1, 1)), pair(minusZero, plusZero))
	wantComplex(t, "zeros with signs", impl.MulComplex(pair(minusZero, minusZero), complex(1, 1)), pair(plusZero, minusZero))
	wantComplex(t, "an infinity times 1", impl.MulComplex(pair(plusInf, plusZero), 1), pair(plusInf, noNumber))
	wantComplex(t, "infinities", impl.MulComplex(pair(plusInf, plusInf), complex(1, 1)), pair(noNumber, plusInf))
	wantComplex(t, "a not-a-number", impl.MulComplex(pair(noNumber, plusOne), 1), pair(noNumber, noNumber))
}

func TestPromise2ScaleComplex(t *testing.T) {
	wantComplex(t, "one half", impl.ScaleComplex(complex(1, 2), 0.5), complex(0.5, 1))
	wantComplex(t, "an infinite part", impl.ScaleComplex(pair(plusZero, plusInf), 2), pair(plusZero, plusInf))
	wantComplex(t, "by -0", impl.ScaleComplex(complex(1, -1), num(minusZero)), pair(minusZero, plusZero))
	wantComplex(t, "by an infinity", impl.ScaleComplex(complex(0, -1), num(plusInf)), pair(noNumber, minusInf))
	wantComplex(t, "ties to even", impl.ScaleComplex(complex(4097, 3*0x1p-149), 4097), complex(16785408, 12291*0x1p-149))
	wantComplex(t, "subnormal ties", impl.ScaleComplex(complex(0x1p-149, 3*0x1p-149), 0.5), complex(0, 2*0x1p-149))
}

func TestPromise2ConjugateOf(t *testing.T) {
	wantComplex(t, "1 + 2 i", impl.ConjugateOf(complex(1, 2)), complex(1, -2))
	wantComplex(t, "1", impl.ConjugateOf(1), pair(plusOne, minusZero))
	wantComplex(t, "1 - 0 i", impl.ConjugateOf(pair(plusOne, minusZero)), 1)
	wantComplex(t, "infinities", impl.ConjugateOf(pair(plusInf, plusInf)), pair(plusInf, minusInf))
	wantComplex(t, "not-a-numbers", impl.ConjugateOf(pair(minusZero, noNumber)), pair(minusZero, noNumber))
}

func TestPromise2PowerOf(t *testing.T) {
	wantNumber(t, "3 + 4 i", impl.PowerOf(complex(3, 4)), 25)
	wantNumber(t, "negative parts", impl.PowerOf(complex(-3, -4)), 25)
	// 4097 squared is rounded down to 16785408 on its own, but not in this sum.
	wantNumber(t, "a sum in 64 bits", impl.PowerOf(complex(4097, 1)), 16785410)
	wantBits(t, "zeros", impl.PowerOf(pair(minusZero, minusZero)), plusZero)
	wantBits(t, "too great", impl.PowerOf(complex(2e38, 0)), plusInf)
	wantBits(t, "too small", impl.PowerOf(complex(1e-30, 0)), plusZero)
	wantBits(t, "an infinity", impl.PowerOf(pair(minusInf, plusOne)), plusInf)
	wantBits(t, "a not-a-number", impl.PowerOf(pair(plusInf, noNumber)), noNumber)
}

func TestPromise2LongOf(t *testing.T) {
	wantNumber(t, "3 + 4 i", impl.LongOf(complex(3, 4)), 5)
	wantNumber(t, "negative parts", impl.LongOf(complex(-3, -4)), 5)
	// The power is no 32-bit number here, but its root is one.
	wantNumber(t, "great parts", impl.LongOf(complex(2e38, 0)), 2e38)
	wantNumber(t, "small parts", impl.LongOf(complex(0, 1e-30)), 1e-30)
	wantNumber(t, "the least number", impl.LongOf(complex(num(least), 0)), num(least))
	wantBits(t, "zeros", impl.LongOf(pair(minusZero, minusZero)), plusZero)
	wantBits(t, "an infinity", impl.LongOf(pair(minusInf, plusOne)), plusInf)
	wantBits(t, "a not-a-number", impl.LongOf(pair(plusOne, noNumber)), noNumber)
	wantBits(t, "a root that is too great", impl.LongOf(complex(3e38, 3e38)), plusInf)
	wantBits(t, "1 + i", impl.LongOf(complex(1, 1)), 0x3fb504f3)
}

func TestPromise2QuotientOf(t *testing.T) {
	wantComplex(t, "the example", impl.QuotientOf(complex(0, 4), 2), complex(0, 2))
	wantComplex(t, "leads back", impl.QuotientOf(complex(5, 5), complex(3, -1)), complex(1, 2))
	wantComplex(t, "by i", impl.QuotientOf(complex(1, 2), complex(0, 1)), complex(2, -1))
	wantComplex(t, "small numbers", impl.QuotientOf(complex(3e-30, 1e-30), complex(1e-30, 0)), complex(3, 1))
	wantComplex(t, "great numbers", impl.QuotientOf(complex(2e38, 1e38), complex(0, 1e38)), complex(1, -2))
	wantComplex(t, "a rounded quotient", impl.QuotientOf(complex(1, 1), 3), pair(0x3eaaaaab, 0x3eaaaaab))
	wantComplex(t, "a zero", impl.QuotientOf(0, complex(1, 1)), 0)
	wantComplex(t, "a zero with signs", impl.QuotientOf(pair(minusZero, minusZero), 1), pair(minusZero, plusZero))
	for _, zero := range []complex64{0, pair(minusZero, minusZero), pair(plusZero, minusZero)} {
		wantComplex(t, "by a zero", impl.QuotientOf(complex(1, 2), zero), pair(noNumber, noNumber))
		wantComplex(t, "a zero by a zero", impl.QuotientOf(0, zero), pair(noNumber, noNumber))
	}
	wantComplex(t, "by an infinity", impl.QuotientOf(1, pair(plusInf, plusZero)), pair(noNumber, noNumber))
	wantComplex(t, "an infinity", impl.QuotientOf(pair(plusInf, plusOne), complex(1, 1)), pair(plusInf, minusInf))
	wantComplex(t, "a not-a-number", impl.QuotientOf(pair(noNumber, plusOne), 1), pair(noNumber, noNumber))
	wantComplex(t, "not narrowed between", impl.QuotientOf(complex(4097, 4096), complex(4097, -4098)), goldenQuotient())
}

// goldenQuotient is told with whole numbers: only the last steps are rounded.
func goldenQuotient() complex64 {
	power := float64(4097*4097 + 4098*4098)
	re := float64(4097*4097 - 4096*4098)
	im := float64(4097*4098 + 4096*4097)
	return complex(float32(re/power), float32(im/power))
}

func TestPromise2RootNumber(t *testing.T) {
	cases := []struct{ x, want uint32 }{
		{0x41100000, 0x40400000}, {0x40000000, 0x3fb504f3}, {plusOne, plusOne}, {plusZero, plusZero}, {minusZero, minusZero},
		{least, 0x1a3504f3}, {0x80000001, noNumber}, {0xbf800000, noNumber}, {greatest, 0x5f7fffff},
		{plusInf, plusInf}, {minusInf, noNumber}, {noNumber, noNumber}, {0xffffffff, noNumber},
	}
	for _, c := range cases {
		wantBits(t, fmt.Sprintf("RootNumber %08x", c.x), impl.RootNumber(num(c.x)), c.want)
	}
	for n := range 4096 {
		wantNumber(t, "the root of a square", impl.RootNumber(float32(n*n)), float32(n))
	}
	wantNumber(t, "a root near another", impl.RootNumber(0x1.fffffep-1), float32(math.Sqrt(0x1.fffffep-1)))
}
