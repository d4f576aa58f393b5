package tests

import (
	"fmt"
	"math"
	"slices"
	"strings"
	"testing"

	"loop.example/g01364/impl"
)

// wantNumbersText checks a list against its text, both ways.
func wantNumbersText(t *testing.T, list []float32, text string) {
	t.Helper()
	got, ok := impl.NumbersText(list)
	wantBool(t, "NumbersText succeeds: "+text, ok, true)
	wantText(t, "NumbersText", got, text)
	read, ok := impl.ReadNumbers(text)
	wantBool(t, "ReadNumbers succeeds: "+text, ok, true)
	wantBool(t, "ReadNumbers leads back: "+text, sameNumbers(read, list), true)
}

func wantComplexText(t *testing.T, list []complex64, text string) {
	t.Helper()
	got, ok := impl.ComplexText(list)
	wantBool(t, "ComplexText succeeds: "+text, ok, true)
	wantText(t, "ComplexText", got, text)
	read, ok := impl.ReadComplex(text)
	wantBool(t, "ReadComplex succeeds: "+text, ok, true)
	wantBool(t, "ReadComplex leads back: "+text, sameComplexes(read, list), true)
}

func TestPromise2NumbersText(t *testing.T) {
	wantNumbersText(t, nil, "none")
	wantNumbersText(t, []float32{}, "none")
	wantNumbersText(t, []float32{1, -2}, "3f800000,c0000000")
	wantNumbersText(t, []float32{0, num(minusZero), num(least)}, "00000000,80000000,00000001")
	wantNumbersText(t, []float32{num(plusInf), num(minusInf), num(noNumber)}, "7f800000,ff800000,7fc00000")
	wantNumbersText(t, []float32{num(0xffffffff), num(0x7f800001)}, "7fc00000,7fc00000")
	for _, bits := range strangeBits() {
		wantNumbersText(t, []float32{num(bits), 1}, fmt.Sprintf("%08x,3f800000", bitsOf(num(bits))))
	}
	wantNumbersText(t, repeatedNumbers(1, 256), strings.Repeat("3f800000,", 255)+"3f800000")
	got, ok := impl.NumbersText(repeatedNumbers(1, 257))
	wantBool(t, "NumbersText of 257 succeeds", ok, false)
	wantText(t, "NumbersText of 257", got, "")
}

func TestPromise2ReadNumbersFails(t *testing.T) {
	bad := []string{
		"", ",", "3f80000", "3f8000000", "3f800000,", ",3f800000", "3f800000,,3f800000", "3F800000", "3f80000g", "3f80000/", "3f80000:", "3f80000`",
		"3f800000 ", " 3f800000", "3f800000, 3f800000", "3f800000;3f800000", "3f8000003f800000", "+f800000", "-0000001", "0x3f8000", "3f_80000",
		"None", "none,3f800000", "3f800000,none", "none,", "none ", "éééé", "３f8000", "3f80000\xff", "3f8000\x00\x00", "3f800000\n",
		"7fc00001", "7f800001", "ffc00000", "ffffffff", "3f800000,ffc00000",
		strings.Repeat("3f800000,", 256) + "3f800000", strings.Repeat(",", 256), strings.Repeat("3f800000,", 100000),
	}
	for _, text := range bad {
		list, ok := impl.ReadNumbers(text)
		wantBool(t, fmt.Sprintf("ReadNumbers %.40q succeeds", text), ok, false)
		wantInt(t, fmt.Sprintf("the length of ReadNumbers %.40q", text), int64(len(list)), 0)
	}
}

func TestPromise2ComplexText(t *testing.T) {
	wantComplexText(t, nil, "none")
	wantComplexText(t, []complex64{1}, "3f80000000000000")
	wantComplexText(t, []complex64{1, complex(0, -2)}, "3f80000000000000,00000000c0000000")
	wantComplexText(t, []complex64{pair(minusZero, least), pair(0xffffffff, minusInf)}, "8000000000000001,7fc00000ff800000")
	for _, bits := range strangeBits() {
		hex := fmt.Sprintf("%08x", bitsOf(num(bits)))
		wantComplexText(t, []complex64{pair(bits, plusOne), pair(plusOne, bits)}, hex+"3f800000,3f800000"+hex)
	}
	wantComplexText(t, repeatedComplexes(1, 256), strings.Repeat("3f80000000000000,", 255)+"3f80000000000000")
	got, ok := impl.ComplexText(repeatedComplexes(1, 257))
	wantBool(t, "ComplexText of 257 succeeds", ok, false)
	wantText(t, "ComplexText of 257", got, "")
}

func TestPromise2ReadComplexFails(t *testing.T) {
	bad := []string{
		"", ",", "3f800000", "3f8000000000000", "3f800000000000000", "3f80000000000000,", ",3f80000000000000", "3F80000000000000", "3f800000,00000000",
		"3f8000000000000g", "g000000000000000", "3f80000000000000 ", "3f800000 0000000", "None", "none,3f80000000000000", "3f80000000000000,none",
		"3f8000007fc00001", "7fc000013f800000", "ffc000003f800000", "3f800000ffffffff", "éééééééé", "0000000é0000000", "3f8000000000000\xff",
		strings.Repeat("3f80000000000000,", 256) + "3f80000000000000", strings.Repeat("3f80000000000000,", 100000),
	}
	for _, text := range bad {
		list, ok := impl.ReadComplex(text)
		wantBool(t, fmt.Sprintf("ReadComplex %.40q succeeds", text), ok, false)
		wantInt(t, fmt.Sprintf("the length of ReadComplex %.40q", text), int64(len(list)), 0)
	}
}

func TestPromise2IsName(t *testing.T) {
	for _, s := range []string{"a", "z", "ring", "abcdefgh", "zzzzzzzz", "none"} {
		wantBool(t, fmt.Sprintf("IsName %q", s), impl.IsName(s), true)
	}
	for _, s := range []string{"", "abcdefghi", "A", "ringZ", "a1", "a b", " a", "a\n", "`", "{", "é", "ab\xff", "a\x00", strings.Repeat("a", 100000)} {
		wantBool(t, fmt.Sprintf("IsName %.40q", s), impl.IsName(s), false)
	}
}

func TestPromise2Decimal(t *testing.T) {
	cases := []struct {
		n    int64
		want string
	}{
		{0, "0"}, {7, "7"}, {-4, "-4"}, {10, "10"}, {-100, "-100"}, {1000000000000000, "1000000000000000"},
		{math.MaxInt64, "9223372036854775807"}, {math.MinInt64, "-9223372036854775808"},
	}
	for _, c := range cases {
		wantText(t, "Decimal", impl.Decimal(c.n), c.want)
	}
}

func TestPromise2ReadDecimal(t *testing.T) {
	for _, n := range []int64{0, 1, -1, 10, 65003, -999, 1000000000000000, -1000000000000000, 999999999999999} {
		got, ok := impl.ReadDecimal(impl.Decimal(n))
		wantBool(t, fmt.Sprintf("ReadDecimal of %d succeeds", n), ok, true)
		wantInt(t, "ReadDecimal", got, n)
	}
	bad := []string{
		"", "-", "+", "-0", "+1", "00", "01", "-01", " 1", "1 ", "1\n", "1.0", "1e3", "1_000", "0x1", "--1", "none", "a", "٣", "1\xff", "1\x00",
		"1000000000000001", "-1000000000000001", "9223372036854775807", "-9223372036854775808", "9223372036854775808",
		"18446744073709551617", strings.Repeat("9", 100000), strings.Repeat("0", 100000) + "1",
	}
	for _, s := range bad {
		got, ok := impl.ReadDecimal(s)
		wantBool(t, fmt.Sprintf("ReadDecimal %.40q succeeds", s), ok, false)
		wantInt(t, fmt.Sprintf("ReadDecimal %.40q", s), got, 0)
	}
}

func wantListText(t *testing.T, list []int64, text string) {
	t.Helper()
	got, ok := impl.ListText(list)
	wantBool(t, "ListText succeeds: "+text, ok, true)
	wantText(t, "ListText", got, text)
	read, ok := impl.ReadList(text)
	wantBool(t, "ReadList succeeds: "+text, ok, true)
	wantBool(t, "ReadList leads back: "+text, slices.Equal(read, list), true)
}

func TestPromise2ListText(t *testing.T) {
	wantListText(t, nil, "none")
	wantListText(t, []int64{}, "none")
	wantListText(t, []int64{0}, "0")
	wantListText(t, []int64{1, -2, 30}, "1,-2,30")
	wantListText(t, []int64{-1000000000000000, 1000000000000000}, "-1000000000000000,1000000000000000")
	wantListText(t, slices.Repeat([]int64{-7}, 64), strings.Repeat("-7,", 63)+"-7")
	bad := [][]int64{
		slices.Repeat([]int64{1}, 65), {1000000000000001}, {-1000000000000001}, {0, math.MaxInt64}, {math.MinInt64, 0},
	}
	for _, list := range bad {
		got, ok := impl.ListText(list)
		wantBool(t, fmt.Sprintf("ListText %v succeeds", list), ok, false)
		wantText(t, fmt.Sprintf("ListText %v", list), got, "")
	}
}

func TestPromise2ReadListFails(t *testing.T) {
	bad := []string{
		"", ",", "1,", ",1", "1,,2", "1, 2", "1;2", "01", "1,02", "-0", "+1", "None", "none,1", "1,none", "none ", "1\n", "1,2\xff",
		"1000000000000001", "0,-1000000000000001", strings.Repeat("1,", 64) + "1", strings.Repeat(",", 64), strings.Repeat("1,", 100000),
	}
	for _, text := range bad {
		list, ok := impl.ReadList(text)
		wantBool(t, fmt.Sprintf("ReadList %.40q succeeds", text), ok, false)
		wantInt(t, fmt.Sprintf("the length of ReadList %.40q", text), int64(len(list)), 0)
	}
}

func TestPromise2CheckOf(t *testing.T) {
	cases := []struct {
		start int64
		text  string
		want  int64
	}{
		{0, "", 0}, {65002, "", 65002}, {0, "a", 290}, {0, "ab", 9689}, {65002, "z", 64389}, {1, "a", 1219},
		{0, "\x00", 193}, {0, "\xff", 448}, {0, "é", 35799},
	}
	for _, c := range cases {
		got, ok := impl.CheckOf(c.start, c.text)
		wantBool(t, fmt.Sprintf("CheckOf %d %q succeeds", c.start, c.text), ok, true)
		wantInt(t, fmt.Sprintf("CheckOf %d %q", c.start, c.text), got, c.want)
	}
	text := strings.Repeat("order \xfe", 20000)
	whole, _ := impl.CheckOf(5, text)
	first, _ := impl.CheckOf(5, text[:77777])
	rest, _ := impl.CheckOf(first, text[77777:])
	wantInt(t, "CheckOf in two parts", rest, whole)
	for _, start := range []int64{-1, 65003, math.MinInt64, math.MaxInt64} {
		got, ok := impl.CheckOf(start, "a")
		wantBool(t, fmt.Sprintf("CheckOf begins with %d", start), ok, false)
		wantInt(t, fmt.Sprintf("CheckOf begins with %d", start), got, 0)
	}
}
