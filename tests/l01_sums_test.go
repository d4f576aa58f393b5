package tests

import (
	"testing"

	"loop.example/g01364/impl"
)

func wantSum(t *testing.T, what string, list []float32, want float32) {
	t.Helper()
	got, ok := impl.SumNumbers(list)
	wantBool(t, "SumNumbers succeeds: "+what, ok, true)
	wantNumber(t, "SumNumbers: "+what, got, want)
}

func TestPromise2SumNumbers(t *testing.T) {
	wantSum(t, "some", []float32{1, 2, 3.5}, 6.5)
	wantSum(t, "none", nil, 0)
	wantSum(t, "none, not nil", []float32{}, 0)
	wantSum(t, "-0 alone", []float32{num(minusZero)}, 0)
	wantSum(t, "from the left", []float32{16777216, 1, 1}, 16777216)
	wantSum(t, "from the left, small ones first", []float32{1, 1, 16777216}, 16777218)
	wantSum(t, "infinities", []float32{num(plusInf), num(minusInf)}, num(noNumber))
	wantSum(t, "too great between", []float32{3e38, 3e38, -3e38}, num(plusInf))
	wantSum(t, "subnormal numbers", []float32{num(least), num(least)}, num(2))
	wantSum(t, "a full list", repeatedNumbers(1, 256), 256)
	got, ok := impl.SumNumbers(repeatedNumbers(1, 257))
	wantBool(t, "SumNumbers of 257 succeeds", ok, false)
	wantBits(t, "SumNumbers of 257", got, plusZero)
}

func wantDot(t *testing.T, what string, a, b []float32, want float32) {
	t.Helper()
	got, ok := impl.DotNumbers(a, b)
	wantBool(t, "DotNumbers succeeds: "+what, ok, true)
	wantNumber(t, "DotNumbers: "+what, got, want)
}

func TestPromise2DotNumbers(t *testing.T) {
	wantDot(t, "some", []float32{1, 2}, []float32{3, 4}, 11)
	wantDot(t, "none", nil, []float32{}, 0)
	wantDot(t, "-0 alone", []float32{num(minusZero)}, []float32{1}, 0)
	// 4097 squared is 16785409, which is rounded before it is added.
	wantDot(t, "rounded products", []float32{-1, 4097}, []float32{16785408, 4097}, 0)
	wantDot(t, "from the left", []float32{4096, 1, 1}, []float32{4096, 1, 1}, 16777216)
	wantDot(t, "from the left, small ones first", []float32{1, 1, 4096}, []float32{1, 1, 4096}, 16777218)
	wantDot(t, "0 times an infinity", []float32{0}, []float32{num(plusInf)}, num(noNumber))
	wantDot(t, "a full list", repeatedNumbers(2, 256), repeatedNumbers(3, 256), 1536)
	bad := [][2][]float32{
		{{1}, nil}, {nil, {1}}, {{1, 2}, {1}}, {{1}, {1, 2}},
		{repeatedNumbers(1, 257), repeatedNumbers(1, 257)}, {repeatedNumbers(1, 256), repeatedNumbers(1, 257)},
	}
	for _, lists := range bad {
		got, ok := impl.DotNumbers(lists[0], lists[1])
		wantBool(t, "DotNumbers of bad lists succeeds", ok, false)
		wantBits(t, "DotNumbers of bad lists", got, plusZero)
	}
}

func TestPromise2SumComplex(t *testing.T) {
	cases := []struct {
		what string
		list []complex64
		want complex64
	}{
		{"some", []complex64{1, complex(2, 3)}, complex(3, 3)},
		{"none", nil, 0},
		{"zeros", []complex64{pair(minusZero, minusZero)}, 0},
		{"from the left", []complex64{complex(16777216, 1), complex(1, 1), complex(1, 16777216)}, complex(16777216, 16777218)},
		{"an infinity", []complex64{pair(plusInf, plusOne), complex(1, 1)}, pair(plusInf, 0x40000000)},
		{"infinities", []complex64{pair(plusOne, plusInf), pair(plusOne, minusInf)}, pair(0x40000000, noNumber)},
		{"a full list", repeatedComplexes(complex(1, -1), 256), complex(256, -256)},
	}
	for _, c := range cases {
		got, ok := impl.SumComplex(c.list)
		wantBool(t, "SumComplex succeeds: "+c.what, ok, true)
		wantComplex(t, "SumComplex: "+c.what, got, c.want)
	}
	got, ok := impl.SumComplex(repeatedComplexes(1, 257))
	wantBool(t, "SumComplex of 257 succeeds", ok, false)
	wantComplex(t, "SumComplex of 257", got, 0)
}

func TestPromise2DotComplexAndDotConjugate(t *testing.T) {
	i := complex64(complex(0, 1))
	cases := []struct {
		what            string
		a, b            []complex64
		dot, conjugated complex64
	}{
		{"i and i", []complex64{i}, []complex64{i}, -1, 1},
		{"some", []complex64{complex(1, 2), complex(0, 1)}, []complex64{complex(3, -1), complex(2, 5)}, complex(0, 7), complex(6, -9)},
		{"none", nil, []complex64{}, 0, 0},
		{"zeros", []complex64{pair(minusZero, minusZero)}, []complex64{1}, 0, 0},
		// The products differ by 1 before they are rounded, so each one is narrowed once.
		{"exact products", []complex64{complex(4097, 4096)}, []complex64{complex(4097, 4098)}, complex(1, 33570816), complex(33570816, 8194)},
		{"narrowed products", []complex64{-1, 4097}, []complex64{16785408, 4097}, 0, 0},
		{"from the left", []complex64{4096, i, i}, []complex64{4096, -i, -i}, 16777216, complex(16777214, 0)},
		{"a full list", repeatedComplexes(i, 256), repeatedComplexes(2, 256), complex(0, 512), complex(0, -512)},
	}
	for _, c := range cases {
		dot, one := impl.DotComplex(c.a, c.b)
		conjugated, two := impl.DotConjugate(c.a, c.b)
		wantBool(t, "DotComplex and DotConjugate succeed: "+c.what, one && two, true)
		wantComplex(t, "DotComplex: "+c.what, dot, c.dot)
		wantComplex(t, "DotConjugate: "+c.what, conjugated, c.conjugated)
	}
	bad := [][2][]complex64{
		{{1}, nil}, {nil, {1}}, {{1, 2}, {1}}, {{1}, {1, 2}},
		{repeatedComplexes(1, 257), repeatedComplexes(1, 257)}, {repeatedComplexes(1, 256), repeatedComplexes(1, 257)},
	}
	for _, lists := range bad {
		dot, one := impl.DotComplex(lists[0], lists[1])
		conjugated, two := impl.DotConjugate(lists[0], lists[1])
		wantBool(t, "DotComplex or DotConjugate of bad lists succeeds", one || two, false)
		wantComplex(t, "DotComplex of bad lists", dot, 0)
		wantComplex(t, "DotConjugate of bad lists", conjugated, 0)
	}
}

func TestPromise2PowersOf(t *testing.T) {
	cases := []struct {
		what string
		list []complex64
		want float32
	}{
		{"some", []complex64{complex(3, 4), 1}, 26},
		{"none", nil, 0},
		{"zeros", []complex64{pair(minusZero, minusZero)}, 0},
		{"not rounded between", []complex64{4096, 1, 1}, 16777218},
		{"powers that are not narrowed", []complex64{4097, 1}, 16785410},
		// The small powers vanish beside the great one, but not if they are added up before it.
		{"from the left", append([]complex64{complex(4096, 1)}, repeatedComplexes(0x1p-15, 255)...), 16777216},
		{"from the left, small ones first", append(repeatedComplexes(0x1p-15, 255), complex(4096, 1)), 16777218},
		{"small powers", repeatedComplexes(complex(0x1p-76, 0), 256), 0x1p-144},
		{"an infinity", []complex64{1, pair(plusOne, minusInf)}, num(plusInf)},
		{"a not-a-number", []complex64{1, pair(noNumber, plusOne)}, num(noNumber)},
		{"too great", []complex64{complex(2e38, 0)}, num(plusInf)},
		{"a full list", repeatedComplexes(complex(1, 1), 256), 512},
	}
	for _, c := range cases {
		got, ok := impl.PowersOf(c.list)
		wantBool(t, "PowersOf succeeds: "+c.what, ok, true)
		wantNumber(t, "PowersOf: "+c.what, got, c.want)
	}
	got, ok := impl.PowersOf(repeatedComplexes(1, 257))
	wantBool(t, "PowersOf 257 succeeds", ok, false)
	wantBits(t, "PowersOf 257", got, plusZero)
}
