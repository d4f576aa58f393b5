package tests

import (
	"fmt"
	"math"
	"slices"
	"strings"
	"testing"

	"loop.example/g01364/impl"
)

// arguments are one of each kind that functions take.
type arguments struct {
	x, y, z, w float32
	wide       float64
	n          int64
	text       string
	numbers    [2][]float32
	complexes  [2][]complex64
	integers   []int64
}

// resultText tells results by their bits, so that equal texts mean equal results.
func resultText(results ...any) string {
	var b strings.Builder
	for _, r := range results {
		switch v := r.(type) {
		case float32:
			fmt.Fprintf(&b, "%08x ", bitsOf(v))
		case complex64:
			fmt.Fprintf(&b, "%08x%08x ", bitsOf(real(v)), bitsOf(imag(v)))
		case []float32:
			for _, x := range v {
				fmt.Fprintf(&b, "%08x,", bitsOf(x))
			}
		case []complex64:
			for _, x := range v {
				fmt.Fprintf(&b, "%08x%08x,", bitsOf(real(x)), bitsOf(imag(x)))
			}
		case impl.Table:
			b.WriteString(toldTable(v, true))
		default:
			fmt.Fprintf(&b, "%v ", v)
		}
	}
	return b.String()
}

func listed[T any](r T, ok bool) string { return resultText(r, ok) }

// callAll calls every function of chapter 1, and returns what each one returns.
func callAll(a arguments) []string {
	p, q := complex(a.x, a.y), complex(a.z, a.w)
	return []string{
		resultText(impl.SameNumber(a.x, a.y), impl.IsFinite(a.x), impl.BitsOf(a.x)),
		listed(impl.FromBits(a.n)),
		resultText(impl.NarrowNumber(a.wide), impl.IsSubnormal(a.x), impl.FlushNumber(a.x)),
		resultText(impl.SameComplex(p, q), impl.IsFiniteComplex(p), impl.NarrowComplex(complex(a.wide, -a.wide))),
		resultText(impl.MulComplex(p, q), impl.ScaleComplex(p, a.z), impl.ConjugateOf(p)),
		resultText(impl.PowerOf(p), impl.LongOf(p), impl.QuotientOf(p, q)),
		resultText(impl.PhasorOf(a.wide), impl.PhasorOf(float64(a.x)), impl.AngleOf(p), impl.SineTurns(a.x)),
		resultText(impl.AngleTurns(a.x, a.y), impl.RootNumber(a.x), impl.ExpNumber(a.x), impl.LogNumber(a.x)),
		listed(impl.TenthsOf(a.x)),
		listed(impl.SumNumbers(a.numbers[0])),
		listed(impl.DotNumbers(a.numbers[0], a.numbers[1])),
		listed(impl.SumComplex(a.complexes[0])),
		listed(impl.DotComplex(a.complexes[0], a.complexes[1])),
		listed(impl.DotConjugate(a.complexes[0], a.complexes[1])),
		listed(impl.PowersOf(a.complexes[0])),
		listed(impl.NumbersText(a.numbers[0])),
		listed(impl.ReadNumbers(a.text)),
		listed(impl.ComplexText(a.complexes[0])),
		listed(impl.ReadComplex(a.text)),
		resultText(impl.IsName(a.text), impl.Decimal(a.n)),
		listed(impl.ReadDecimal(a.text)),
		listed(impl.ListText(a.integers)),
		listed(impl.ReadList(a.text)),
		listed(impl.CheckOf(a.n, a.text)),
	}
}

func strangeWides() []float64 {
	return []float64{
		0, math.Copysign(0, -1), math.SmallestNonzeroFloat64, -math.SmallestNonzeroFloat64, 0x1p-150, -1e-20, 1e-20,
		0.25, -0.25, 0.5, 1, -1, 1e9 + 0.3, 4503599627370495.5, 4503599627370496, -4503599627370496, 9223372036854775808,
		math.MaxFloat32, math.MaxFloat64, -math.MaxFloat64, math.Inf(1), math.Inf(-1), math.NaN(),
	}
}

func strangeIntegers() []int64 {
	return []int64{
		0, 1, -1, 65002, 65003, 2143289344, 4294967295, 4294967296, 1000000000000000, 1000000000000001,
		-1000000000000000, -1000000000000001, math.MaxInt64, math.MinInt64,
	}
}

func strangeTexts() []string {
	return []string{
		"", "none", "0", "-1", "1,2", "ring", "3f800000", "3f80000000000000", "7fc00000,7f800000", "ffc00000", ",", ",,,", "-", "é", "\xff\xfe", "\x00",
		strings.Repeat("3f800000,", 300), strings.Repeat("1,", 100), strings.Repeat("9", 1000), strings.Repeat("\xff", 1000), strings.Repeat(",", 100000),
	}
}

// strangeArguments picks the i-th of many mixtures of strange values, with lists of up to 258 numbers.
func strangeArguments(i int) arguments {
	bits, wides, integers, texts := strangeBits(), strangeWides(), strangeIntegers(), strangeTexts()
	at := func(k int) float32 { return num(bits[k%len(bits)]) }
	a := arguments{
		x: at(i), y: at(i / len(bits)), z: at(i / 7), w: at(i / 11),
		wide: wides[i%len(wides)], n: integers[i%len(integers)], text: texts[i%len(texts)],
	}
	lengths := []int{0, 1, 2, 63, 64, 65, 255, 256, 257, 258}
	for side := range 2 {
		length := lengths[(i+i/10*side)%len(lengths)]
		for k := range length {
			a.numbers[side] = append(a.numbers[side], at(i*side+k))
			a.complexes[side] = append(a.complexes[side], complex(at(i+k), at(i*side+3*k)))
		}
	}
	for k := range lengths[i%len(lengths)] {
		a.integers = append(a.integers, integers[(i/10+k*(i%2))%len(integers)])
	}
	return a
}

// wantRepeats calls functions with count arguments, twice each, and with others between.
func wantRepeats(t *testing.T, count int, call func(i int) []string) {
	t.Helper()
	for i := range count {
		first := call(i)
		if again := call(i); !slices.Equal(first, again) {
			t.Fatalf("arguments %d: got %q, and then %q", i, first, again)
		}
	}
	for i := count - 1; i >= 0; i -= 17 {
		first := call(i)
		call(i + 1)
		if again := call(i); !slices.Equal(first, again) {
			t.Fatalf("arguments %d, after others: got %q, and then %q", i, first, again)
		}
	}
}

// wantTaken calls functions with count arguments, and wants each of them to succeed often, and all but the first one to fail sometimes.
// Without such arguments, the other tests of promise 1 would tell little.
func wantTaken(t *testing.T, count int, call func(i int) []string) {
	t.Helper()
	successes := make([]int, len(call(0)))
	for i := range count {
		for k, text := range call(i) {
			if text != "no" {
				successes[k]++
			}
			if strings.HasPrefix(text, "no, but") {
				t.Errorf("function %d fails, but returns %s", k, text)
			}
		}
	}
	for k, times := range successes {
		if times < count*3/20 || k > 0 && times > count-10 {
			t.Errorf("function %d succeeds %d times", k, times)
		}
	}
}

func TestPromise1ReturnsAndRepeats(t *testing.T) {
	count := len(strangeBits()) * len(strangeBits())
	wantRepeats(t, count, func(i int) []string { return callAll(strangeArguments(i)) })
}

// roomy returns a list with further numbers in its unused capacity.
func roomy[T any](list []T, further T) []T {
	all := append(slices.Clone(list), further, further, further)
	return all[:len(list)]
}

func TestPromise1ArgumentsStay(t *testing.T) {
	for i := range 400 {
		a := strangeArguments(i)
		for side := range 2 {
			a.numbers[side] = roomy(a.numbers[side], 77)
			a.complexes[side] = roomy(a.complexes[side], 77)
		}
		a.integers = roomy(a.integers, 77)
		before := wholeLists(a)
		callAll(a)
		if after := wholeLists(a); after != before {
			t.Fatalf("arguments %d: were %s, became %s", i, before, after)
		}
	}
}

// wholeLists tells all lists of arguments with their unused capacity.
func wholeLists(a arguments) string {
	var b strings.Builder
	for side := range 2 {
		numbers, complexes := a.numbers[side], a.complexes[side]
		b.WriteString(resultText(numbers[:cap(numbers)], complexes[:cap(complexes)]))
	}
	b.WriteString(resultText(a.integers[:cap(a.integers)]))
	return b.String()
}

func TestPromise1NilAndEmpty(t *testing.T) {
	without := arguments{text: "none"}
	with := arguments{text: "none", numbers: [2][]float32{{}, {}}, complexes: [2][]complex64{{}, {}}, integers: []int64{}}
	if one, two := callAll(without), callAll(with); !slices.Equal(one, two) {
		t.Errorf("nil lists: got %q, empty lists: got %q", one, two)
	}
}

func TestPromise1ResultsAreNew(t *testing.T) {
	numbers, _ := impl.ReadNumbers("3f800000,40000000")
	complexes, _ := impl.ReadComplex("3f80000000000000,4000000000000000")
	integers, _ := impl.ReadList("1,2")
	spoil(numbers, -1)
	spoil(complexes, -1)
	spoil(integers, -1)
	numbers, _ = impl.ReadNumbers("3f800000,40000000")
	complexes, _ = impl.ReadComplex("3f80000000000000,4000000000000000")
	integers, _ = impl.ReadList("1,2")
	got := resultText(numbers, complexes, integers)
	wantText(t, "lists that are read again", got, resultText([]float32{1, 2}, []complex64{1, 2}, []int64{1, 2}))
}

// spoil writes into all memory of a list.
func spoil[T any](list []T, with T) {
	whole := list[:cap(list)]
	for i := range whole {
		whole[i] = with
	}
}
