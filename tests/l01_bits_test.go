package tests

import (
	"fmt"
	"math"
	"math/big"
	"math/rand"
	"testing"

	"loop.example/g01364/impl"
)

func TestPromise2BitsOf(t *testing.T) {
	cases := []struct{ bits, want uint32 }{
		{plusZero, 0}, {minusZero, 2147483648}, {least, 1}, {0x80000001, 2147483649},
		{plusOne, 1065353216}, {greatest, 2139095039}, {plusInf, 2139095040}, {minusInf, 4286578688},
		{noNumber, 2143289344}, {0xffc00000, 2143289344}, {0x7f800001, 2143289344},
		{0x7fffffff, 2143289344}, {0xffffffff, 2143289344}, {0xff7fffff, 4286578687},
	}
	for _, c := range cases {
		wantInt(t, fmt.Sprintf("BitsOf %08x", c.bits), impl.BitsOf(num(c.bits)), int64(c.want))
	}
}

func TestPromise2BitsLeadBack(t *testing.T) {
	for high := range int64(1 << 16) {
		for _, low := range []int64{0, 1, 0x7fff, 0xffff} {
			n := high<<16 + low
			x, ok := impl.FromBits(n)
			if !ok {
				t.Fatalf("FromBits %08x fails", n)
			}
			want := n
			if x != x {
				want = noNumber
			}
			if got := impl.BitsOf(x); got != want {
				t.Fatalf("BitsOf FromBits %08x: got %08x", n, got)
			}
		}
	}
}

func TestPromise2FromBits(t *testing.T) {
	for _, bits := range strangeBits() {
		x, ok := impl.FromBits(int64(bits))
		wantBool(t, fmt.Sprintf("FromBits %08x succeeds", bits), ok, true)
		wantNumber(t, fmt.Sprintf("FromBits %08x", bits), x, num(bits))
	}
	x, ok := impl.FromBits(4294967295)
	wantBool(t, "the greatest bits succeed", ok && x != x, true)
	for _, n := range []int64{-1, 4294967296, 4294967296 + plusOne, math.MinInt64, math.MaxInt64} {
		x, ok := impl.FromBits(n)
		wantBool(t, fmt.Sprintf("FromBits %d succeeds", n), ok, false)
		wantBits(t, fmt.Sprintf("FromBits %d", n), x, plusZero)
	}
}

func TestPromise2SameNumber(t *testing.T) {
	for i, a := range strangeBits() {
		for j, b := range strangeBits() {
			x, y := num(a), num(b)
			want := i == j || x != x && y != y
			wantBool(t, fmt.Sprintf("SameNumber %08x %08x", a, b), impl.SameNumber(x, y), want)
			wantBool(t, fmt.Sprintf("SameComplex %08x %08x, real", a, b), impl.SameComplex(pair(a, plusOne), pair(b, plusOne)), want)
			wantBool(t, fmt.Sprintf("SameComplex %08x %08x, imaginary", a, b), impl.SameComplex(pair(plusOne, a), pair(plusOne, b)), want)
		}
	}
}

func TestPromise2IsFinite(t *testing.T) {
	for _, bits := range strangeBits() {
		want := bits&0x7f800000 != 0x7f800000
		wantBool(t, fmt.Sprintf("IsFinite %08x", bits), impl.IsFinite(num(bits)), want)
		wantBool(t, fmt.Sprintf("IsFiniteComplex %08x, real", bits), impl.IsFiniteComplex(pair(bits, plusOne)), want)
		wantBool(t, fmt.Sprintf("IsFiniteComplex %08x, imaginary", bits), impl.IsFiniteComplex(pair(plusOne, bits)), want)
	}
}

func TestPromise2Subnormal(t *testing.T) {
	for _, bits := range strangeBits() {
		want := bits&0x7f800000 == 0 && bits&0x007fffff != 0
		flushed := bits
		if want {
			flushed = bits & minusZero
		}
		wantBool(t, fmt.Sprintf("IsSubnormal %08x", bits), impl.IsSubnormal(num(bits)), want)
		wantNumber(t, fmt.Sprintf("FlushNumber %08x", bits), impl.FlushNumber(num(bits)), num(flushed))
	}
}

func TestPromise2NarrowEdges(t *testing.T) {
	cases := []struct {
		x    float64
		want uint32
	}{
		{0, plusZero}, {math.Copysign(0, -1), minusZero}, {0.5, 0x3f000000}, {0.1, 0x3dcccccd},
		{16777217, 0x4b800000}, {16777219, 0x4b800002}, {16777217.5, 0x4b800001}, // ties go to even
		{0x1p-149, least}, {0x1p-150, plusZero}, {-0x1p-150, minusZero}, {0x1.000002p-150, least},
		{0x1.8p-149, 2}, {0x1.fffffep-127, firstFull}, {0x1.fffffcp-127, lastSub},
		{math.SmallestNonzeroFloat64, plusZero}, {-math.SmallestNonzeroFloat64, minusZero},
		{math.MaxFloat32, greatest}, {0x1.fffffefffffffp127, greatest}, {0x1.ffffffp127, plusInf},
		{math.MaxFloat64, plusInf}, {-math.MaxFloat64, minusInf},
		{math.Inf(1), plusInf}, {math.Inf(-1), minusInf}, {math.NaN(), noNumber},
	}
	for _, c := range cases {
		wantBits(t, fmt.Sprintf("NarrowNumber %g", c.x), impl.NarrowNumber(c.x), c.want)
		wantComplex(t, fmt.Sprintf("NarrowComplex %g, 2", c.x), impl.NarrowComplex(complex(c.x, 2)), complex(num(c.want), 2))
		wantComplex(t, fmt.Sprintf("NarrowComplex 2, %g", c.x), impl.NarrowComplex(complex(2, c.x)), complex(2, num(c.want)))
	}
}

func TestPromise2NarrowIsNearest(t *testing.T) {
	random := rand.New(rand.NewSource(1))
	for range 20000 {
		x := math.Ldexp(random.NormFloat64(), random.Intn(290)-155)
		want, _ := new(big.Float).SetFloat64(x).Float32()
		if got := impl.NarrowNumber(x); bitsOf(got) != bitsOf(want) {
			t.Fatalf("NarrowNumber %g: got %08x, want %08x", x, bitsOf(got), bitsOf(want))
		}
	}
}
