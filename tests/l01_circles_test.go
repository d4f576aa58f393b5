package tests

import (
	"fmt"
	"math"
	"testing"

	"loop.example/g01364/impl"
)

// The bits in the tables of this file were computed apart from impl, step by step as the document says, in 64-bit numbers.

func TestPromise2SineTurns(t *testing.T) {
	cases := []struct{ x, want uint32 }{
		{plusZero, plusZero}, {minusZero, minusZero}, {least, 0x00000006}, {0x80000001, minusZero}, {lastSub, 0x01c90fd9},
		{plusOne, plusZero}, {0xbf800000, plusZero}, {0x3e800000, plusOne}, {0x3f000000, minusZero},
		{0x3f400000, 0xbf800000}, {0xbf000000, minusZero}, {0xa1000000, minusZero}, {0x4b7fffff, plusZero},
		{0x3eaaaaab, 0x3f5db3d7}, {0x3dcccccd, 0x3f167918}, {0xbdcccccd, 0xbf167918}, {0x3f666666, 0xbf16791a},
		{0x40490fdb, 0x3f46dfe0}, {0xbe924a3e, 0xbf79941b}, {0x3eb79eeb, 0x3f46a4f3}, {0x4022e599, 0xbe8fa849},
		{0xbe530bc5, 0xbf7652a0}, {0x3d40b506, 0x3e952839}, {0x3f06391d, 0xbe1bcbcf}, {0xbff22e4d, 0x3f20a434}, {0x3d925557, 0x3ede3745},
		{0x3e736493, 0x3f7f3c04}, {0x3e620129, 0x3f7bad23}, {0x3e76ead5, 0x3f7f9a41}, // one term less of the series would be seen
		{0x597fffff, plusZero}, {0x59800000, plusZero}, {0xd9800000, plusZero}, {greatest, plusZero}, {0xff7fffff, plusZero},
		{plusInf, noNumber}, {minusInf, noNumber}, {noNumber, noNumber}, {0xffffffff, noNumber},
	}
	for _, c := range cases {
		wantBits(t, fmt.Sprintf("SineTurns %08x", c.x), impl.SineTurns(num(c.x)), c.want)
	}
	for i := -4000; i <= 4000; i++ {
		x := float32(i) / 1000
		want := math.Sin(2 * math.Pi * float64(x))
		if got := impl.SineTurns(x); math.Abs(float64(got)-want) > 1e-6 {
			t.Fatalf("SineTurns %g: got %g, want nearly %g", x, got, want)
		}
	}
}

func TestPromise2PhasorOf(t *testing.T) {
	cases := []struct {
		turns  float64
		re, im uint32
	}{
		{0, plusOne, plusZero}, {math.Copysign(0, -1), plusOne, minusZero}, {0.125, 0x3f3504f3, 0x3f3504f3},
		{0.25, plusZero, plusOne}, {0.5, 0xbf800000, plusZero}, {0.75, plusZero, 0xbf800000}, {1, plusOne, plusZero},
		{-0.25, plusZero, 0xbf800000}, {-0.5, 0xbf800000, plusZero}, {-0.75, plusZero, plusOne}, {-1, plusOne, plusZero},
		{-1e-20, plusOne, plusZero}, {1e-20, plusOne, 0x1f945b86}, {5e-324, plusOne, plusZero}, {-5e-324, plusOne, plusZero},
		{0.1, 0x3f4f1bbd, 0x3f167918}, {0.3, 0xbe9e377a, 0x3f737871}, {0.6, 0xbf4f1bbd, 0xbf167918}, {0.9, 0x3f4f1bbd, 0xbf167918},
		{-0.1, 0x3f4f1bbd, 0xbf167918}, {123456.7, 0xbe9e377a, 0xbf737871}, {0.3333333333333333, 0xbf000000, 0x3f5db3d7},
		{4503599627370495.5, 0xbf800000, plusZero}, {-4503599627370495.5, 0xbf800000, plusZero},
		{4503599627370496, plusOne, plusZero}, {-4503599627370496, plusOne, plusZero},
		{math.MaxFloat64, plusOne, plusZero}, {-math.MaxFloat64, plusOne, plusZero},
		{math.Inf(1), noNumber, noNumber}, {math.Inf(-1), noNumber, noNumber}, {math.NaN(), noNumber, noNumber},
	}
	for _, c := range cases {
		wantComplex(t, fmt.Sprintf("PhasorOf %g", c.turns), impl.PhasorOf(c.turns), pair(c.re, c.im))
	}
	for i := -4000; i <= 4000; i++ {
		turns := float64(i) / 1000
		got := impl.PhasorOf(turns)
		sin, cos := math.Sincos(2 * math.Pi * turns)
		if math.Abs(float64(real(got))-cos) > 1e-6 || math.Abs(float64(imag(got))-sin) > 1e-6 {
			t.Fatalf("PhasorOf %g: got %v", turns, got)
		}
	}
}

func TestPromise2AngleTurns(t *testing.T) {
	cases := []struct{ y, x, want uint32 }{
		{plusZero, plusZero, plusZero}, {plusZero, minusZero, plusZero}, {minusZero, plusZero, plusZero}, {minusZero, minusZero, plusZero},
		{plusZero, plusOne, plusZero}, {minusZero, plusOne, plusZero}, {plusZero, 0xbf800000, 0x3f000000}, {minusZero, 0xbf800000, 0x3f000000},
		{plusOne, plusZero, 0x3e800000}, {plusOne, minusZero, 0x3e800000}, {0xbf800000, plusZero, 0xbe800000}, {0xbf800000, minusZero, 0xbe800000},
		{plusOne, plusOne, 0x3e000000}, {plusOne, 0xbf800000, 0x3ec00000}, {0xbf800000, plusOne, 0xbe000000}, {0xbf800000, 0xbf800000, 0xbec00000},
		{least, greatest, plusZero}, {0x80000001, greatest, minusZero}, {greatest, least, 0x3e800000}, {0x80000001, 0xff7fffff, 0xbf000000},
		{least, least, 0x3e000000}, {0x80000001, least, 0xbe000000},
		{0xc00385b3, 0xc03a3d5e, 0xbecde543}, {0x3e2e5fdf, 0xc02921e3, 0x3efac1a6}, {0xbfedeb89, 0xbfc63011, 0xbeb898ae},
		{0xc03472c3, 0xbe5d9630, 0xbe863de7}, {0xbeb6b03c, 0x40037df5, 0xbce03156}, {0x3deaff43, 0x3f577cf2, 0x3cb0a404},
		{0xbab2667e, 0x3f7985c1, 0xb9690afb}, {0xbe831526, 0xbfaa5ef3, 0xbef083df},
		{plusInf, plusOne, noNumber}, {plusOne, minusInf, noNumber}, {plusInf, plusInf, noNumber},
		{noNumber, plusOne, noNumber}, {plusOne, noNumber, noNumber}, {plusZero, noNumber, noNumber}, {minusInf, plusZero, noNumber},
	}
	for _, c := range cases {
		wantBits(t, fmt.Sprintf("AngleTurns %08x %08x", c.y, c.x), impl.AngleTurns(num(c.y), num(c.x)), c.want)
		wantBits(t, fmt.Sprintf("AngleOf %08x %08x", c.x, c.y), impl.AngleOf(pair(c.x, c.y)), c.want)
	}
	for i := -50; i <= 50; i++ {
		for j := -50; j <= 50; j++ {
			y, x := float32(i)/7, float32(j)/7
			want := math.Atan2(float64(y), float64(x)) / (2 * math.Pi)
			if got := impl.AngleTurns(y, x); math.Abs(float64(got)-want) > 1e-7 {
				t.Fatalf("AngleTurns %g %g: got %g, want nearly %g", y, x, got, want)
			}
		}
	}
}

func TestPromise2AnglesOfPhasors(t *testing.T) {
	for i := -499; i <= 500; i++ {
		turns := float64(i) / 1000
		got := impl.AngleOf(impl.PhasorOf(turns))
		if math.Abs(float64(got)-turns) > 1e-6 {
			t.Fatalf("the angle of the phasor of %g: got %g", turns, got)
		}
	}
	wantNumber(t, "the angle of i", impl.AngleOf(impl.PhasorOf(0.25)), 0.25)
}

func TestPromise2LogNumberAndTenthsOf(t *testing.T) {
	cases := []struct {
		x, log uint32
		tenths int64
		ok     bool
	}{
		{plusZero, minusInf, 0, false}, {minusZero, minusInf, 0, false}, {0x80000001, noNumber, 0, false}, {0xbf800000, noNumber, 0, false},
		{0xff7fffff, noNumber, 0, false}, {minusInf, noNumber, 0, false}, {plusInf, plusInf, 0, false}, {noNumber, noNumber, 0, false}, {0xffffffff, noNumber, 0, false},
		{least, 0xc2ce8ed0, -4485, true}, {lastSub, 0xc2aeac50, -3793, true}, {firstFull, 0xc2aeac50, -3793, true}, {greatest, 0x42b17218, 3853, true},
		{0x3f400000, 0xbe934b11, -12, true}, {0x3f3fffff, 0xbe934b13, -12, true}, {0x3fc00000, 0x3ecf991f, 18, true}, {0x3fbfffff, 0x3ecf991d, 18, true},
		{plusOne, plusZero, 0, true}, {0x3f800001, 0x33ffffff, 0, true}, {0x3f7fffff, 0xb3800000, 0, true},
		{0x40000000, 0x3f317218, 30, true}, {0x402df854, 0x3f7fffff, 43, true}, {0x41200000, 0x40135d8e, 100, true},
		{0x41972bff, 0x403c182e, 128, true}, {0x41be5080, 0x404ad4c4, 138, true}, {0x4034b790, 0x3f84dece, 45, true},
		{0x4111a1f2, 0x400d5809, 96, true}, {0x402e1662, 0x3f80161b, 43, true}, {0x41c2508f, 0x404c2993, 139, true},
	}
	for _, c := range cases {
		wantBits(t, fmt.Sprintf("LogNumber %08x", c.x), impl.LogNumber(num(c.x)), c.log)
		tenths, ok := impl.TenthsOf(num(c.x))
		wantBool(t, fmt.Sprintf("TenthsOf %08x succeeds", c.x), ok, c.ok)
		wantInt(t, fmt.Sprintf("TenthsOf %08x", c.x), tenths, c.tenths)
	}
	for i := -30; i <= 30; i++ {
		tenths, ok := impl.TenthsOf(float32(math.Pow(10, float64(i))))
		wantBool(t, "TenthsOf a power of ten succeeds", ok, true)
		wantInt(t, "TenthsOf a power of ten", tenths, int64(100*i))
	}
	for x := float32(1e-40); x < 1e38; x *= 1.7 {
		if got := impl.LogNumber(x); math.Abs(float64(got)-math.Log(float64(x))) > 1e-5 {
			t.Fatalf("LogNumber %g: got %g", x, got)
		}
	}
}

func TestPromise2TenthsBesideBounds(t *testing.T) {
	cases := []struct {
		power uint32
		want  int64
	}{
		{0x00010d4b, -4002}, {0x00010d4c, -4001}, {0x15e46ae9, -2504}, {0x15e46aea, -2503}, {0x3f2b1896, -18}, {0x3f2b1897, -17},
		{0x3f7d11d0, -1}, {0x3f7d11d1, 0}, {0x3f817b6f, 0}, {0x3f817b70, 1}, {0x3f8df970, 4}, {0x3f8df971, 5}, {0x40012cea, 30}, {0x40012ceb, 31},
		{0x4c5e0e04, 776}, {0x4c5e0e05, 777}, {0x714317a8, 2998}, {0x714317a9, 2999}, {0x7f7bffff, 3852}, {0x7f7c0000, 3853},
	}
	for _, c := range cases {
		got, ok := impl.TenthsOf(num(c.power))
		wantBool(t, fmt.Sprintf("TenthsOf %08x succeeds", c.power), ok, true)
		wantInt(t, fmt.Sprintf("TenthsOf %08x", c.power), got, c.want)
	}
}

func TestPromise2ExpNumber(t *testing.T) {
	cases := []struct{ x, want uint32 }{
		{plusZero, plusOne}, {minusZero, plusOne}, {least, plusOne}, {0x80000001, plusOne},
		{plusOne, 0x402df854}, {0xbf800000, 0x3ebc5ab2}, {0x3f000000, 0x3fd3094c}, {0x40000000, 0x40ec7326},
		{0x41200000, 0x46ac14ee}, {0xc1200000, 0x383e6bce}, {0x42b17217, 0x7f7fff84}, {0x42b17218, plusInf},
		{0xc2aeac50, 0x007fffe6}, {0xc2cff1b4, least}, {0xc2d00000, plusZero},
		{0x43480000, plusInf}, {0x43480001, plusInf}, {0xc3480000, plusZero}, {0xc3480001, plusZero},
		{greatest, plusInf}, {0xff7fffff, plusZero}, {plusInf, plusInf}, {minusInf, plusZero}, {noNumber, noNumber}, {0xffffffff, noNumber},
		{0x41f799ec, 0x55c914ed}, {0xc292992a, 0x0a986565}, {0x429a4d49, 0x771e2a52},
		{0xc2a8ab5b, 0x02a0fc04}, {0x42a7f350, 0x7c0e1655}, {0x429e2576, 0x78872785}, // one term less of the series would be seen
		{0x4294b8f5, 0x751b7b3d}, {0x41c50556, 0x5138d6bf}, {0x4193eb96, 0x4ccc6e9c},
	}
	for _, c := range cases {
		wantBits(t, fmt.Sprintf("ExpNumber %08x", c.x), impl.ExpNumber(num(c.x)), c.want)
	}
	for i := -800; i <= 800; i++ {
		x := float32(i) / 10
		want := math.Exp(float64(x))
		if got := impl.ExpNumber(x); math.Abs(float64(got)-want) > 1e-6*want {
			t.Fatalf("ExpNumber %g: got %g, want nearly %g", x, got, want)
		}
	}
}
