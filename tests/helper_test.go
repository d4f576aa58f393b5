package tests

import (
	"fmt"
	"math"
	"slices"
	"strings"
	"testing"

	"loop.example/g01364/impl"
)

// Bits that stand in several tables.
const (
	plusZero  = 0x00000000
	minusZero = 0x80000000
	least     = 0x00000001
	lastSub   = 0x007fffff
	firstFull = 0x00800000
	plusOne   = 0x3f800000
	greatest  = 0x7f7fffff
	plusInf   = 0x7f800000
	minusInf  = 0xff800000
	noNumber  = 0x7fc00000
)

// num does not go through impl, so that a wrong FromBits cannot hide a wrong result.
func num(bits uint32) float32 {
	return math.Float32frombits(bits)
}

func bitsOf(x float32) uint32 {
	if x != x {
		return noNumber
	}
	return math.Float32bits(x)
}

func pair(re, im uint32) complex64 {
	return complex(num(re), num(im))
}

func wantBits(t *testing.T, what string, got float32, want uint32) {
	t.Helper()
	if bitsOf(got) != want {
		t.Errorf("%s: got %08x, want %08x", what, bitsOf(got), want)
	}
}

func wantNumber(t *testing.T, what string, got, want float32) {
	t.Helper()
	wantBits(t, what, got, bitsOf(want))
}

func wantComplex(t *testing.T, what string, got, want complex64) {
	t.Helper()
	wantNumber(t, what+", real part", real(got), real(want))
	wantNumber(t, what+", imaginary part", imag(got), imag(want))
}

func wantBool(t *testing.T, what string, got, want bool) {
	t.Helper()
	if got != want {
		t.Errorf("%s: got %v, want %v", what, got, want)
	}
}

func wantText(t *testing.T, what, got, want string) {
	t.Helper()
	if got != want {
		t.Errorf("%s: got %q, want %q", what, got, want)
	}
}

func wantInt(t *testing.T, what string, got, want int64) {
	t.Helper()
	if got != want {
		t.Errorf("%s: got %d, want %d", what, got, want)
	}
}

func sameNumbers(a, b []float32) bool {
	return slices.EqualFunc(a, b, func(x, y float32) bool { return bitsOf(x) == bitsOf(y) })
}

func sameComplexes(a, b []complex64) bool {
	return slices.EqualFunc(a, b, func(x, y complex64) bool {
		return bitsOf(real(x)) == bitsOf(real(y)) && bitsOf(imag(x)) == bitsOf(imag(y))
	})
}

// strangeBits are those of zeros, subnormal numbers, ones at limits, infinities and not-a-numbers.
func strangeBits() []uint32 {
	return []uint32{
		plusZero, minusZero, least, 0x80000001, lastSub, 0x807fffff, firstFull, 0x80800000,
		plusOne, 0xbf800000, 0x3e800000, 0xbe800000, 0x3f000000, 0xbf000000, 0x3f400000, 0xbf400000,
		0x3eaaaaab, 0x40490fdb, 0xa1000000, 0x43480000, 0x43480001, 0xc3480000, 0xc3480001,
		0x4b7fffff, 0x4b800000, 0x597fffff, 0x59800000, 0xd9800000,
		greatest, 0xff7fffff, plusInf, minusInf, noNumber, 0xffc00000, 0x7f800001, 0xffffffff,
	}
}

func repeatedNumbers(x float32, count int) []float32 {
	return slices.Repeat([]float32{x}, count)
}

func repeatedComplexes(x complex64, count int) []complex64 {
	return slices.Repeat([]complex64{x}, count)
}

// hex returns the bits of numbers, with a comma between two.
func hex(list ...float32) string {
	var items []string
	for _, x := range list {
		items = append(items, fmt.Sprintf("%08x", bitsOf(x)))
	}
	return strings.Join(items, ",")
}

// outcome returns text for a call that succeeds, and "no" for one that fails as it must.
func outcome(text string, zero, ok bool) string {
	if ok {
		return text
	}
	if !zero {
		return "no, but " + text
	}
	return "no"
}

func toldNumber(x float32, ok bool) string {
	return outcome(hex(x), bitsOf(x) == plusZero, ok)
}

func toldRow(row []float32, ok bool) string {
	return outcome(hex(row...), len(row) == 0, ok)
}

func toldTable(t impl.Table, ok bool) string {
	zero := t.Rows == 0 && t.Columns == 0 && len(t.Chances) == 0
	return outcome(fmt.Sprintf("%dx%d:%s", t.Rows, t.Columns, hex(t.Chances...)), zero, ok)
}

func toldInt(n int64, ok bool) string {
	return outcome(fmt.Sprint(n), n == 0, ok)
}

func toldBool(b, ok bool) string {
	return outcome(fmt.Sprint(b), !b, ok)
}

// drawn is a small generator of numbers for tests that need many of them.
type drawn struct{ state uint64 }

// below returns a number from 0 to n - 1.
func (d *drawn) below(n int) int {
	d.state = d.state*6364136223846793005 + 1442695040888963407
	return int((d.state >> 33) % uint64(n))
}

// row returns a row of n chances, some of which are 0 or small.
func (d *drawn) row(n int) []float32 {
	weights, sum := make([]float64, n), 0.0
	for i := range weights {
		weights[i] = []float64{0, 1, 2, 1e-3, 1e-12, float64(d.below(1000))}[d.below(6)]
		sum += weights[i]
	}
	if sum == 0 {
		weights[d.below(n)], sum = 1, 1
	}
	row := make([]float32, n)
	for i := range row {
		row[i] = float32(weights[i] / sum)
	}
	return row
}

// table returns a table of chances.
func (d *drawn) table() impl.Table {
	rows, columns := 1+d.below(8), 1+d.below(8)
	return impl.Table{Rows: int64(rows), Columns: int64(columns), Chances: d.row(rows * columns)}
}

func near(x, y float32) bool {
	return math.Abs(float64(x)-float64(y)) < 1e-5
}

func TestConstants(t *testing.T) {
	wantInt(t, "MaxNumbers", impl.MaxNumbers, 256)
	wantInt(t, "MaxValue", impl.MaxValue, 1000000000000000)
	wantInt(t, "MaxItems", impl.MaxItems, 64)
	wantInt(t, "CheckSize", impl.CheckSize, 65003)
	wantInt(t, "MaxChances", impl.MaxChances, 32)
	wantInt(t, "MaxSide", impl.MaxSide, 8)
	wantInt(t, "MaxDrawn", impl.MaxDrawn, 64)
	wantInt(t, "MaxWorkers", impl.MaxWorkers, 8)
	wantInt(t, "MaxRounds", impl.MaxRounds, 200)
	wantInt(t, "MaxLetters", impl.MaxLetters, 16)
	wantInt(t, "MaxLong", impl.MaxLong, 32)
	wantInt(t, "MaxBits", impl.MaxBits, 512)
	wantInt(t, "MaxSigns", impl.MaxSigns, 16)
	wantInt(t, "MaxText", impl.MaxText, 64)
	wantInt(t, "MaxTotal", impl.MaxTotal, 16384)
	wantInt(t, "MaxTold", impl.MaxTold, 1024)
	wantInt(t, "MaxLooks", impl.MaxLooks, 4)
	wantInt(t, "MaxWide", impl.MaxWide, 16)
	wantInt(t, "MaxParityRows", impl.MaxParityRows, 8)
	wantInt(t, "MaxMemory", impl.MaxMemory, 4)
	wantInt(t, "MaxSent", impl.MaxSent, 40)
	wantInt(t, "MaxSoft", impl.MaxSoft, 160)
	wantInt(t, "MaxNodes", impl.MaxNodes, 32)
	wantInt(t, "MaxPolar", impl.MaxPolar, 5)
	wantInt(t, "MaxDrops", impl.MaxDrops, 32)
	wantInt(t, "MaxSaved", impl.MaxSaved, 8)
	wantInt(t, "MaxScript", impl.MaxScript, 16000)
}
