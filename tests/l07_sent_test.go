package tests

import (
	"fmt"
	"math"
	"slices"
	"testing"

	"loop.example/g01364/impl"
)

func coder(memory int64, masks ...int64) impl.Coder {
	return impl.Coder{Memory: memory, Masks: masks}
}

// toldDigits tells bits as digits, without any signs around them.
func toldDigits(bits []bool, ok bool) string {
	return outcome(digitsOf(bits), len(bits) == 0, ok)
}

func toldPoints(points []complex64, ok bool) string {
	return outcome(resultText(points), len(points) == 0, ok)
}

// bits returns some bits.
func (d *drawn) bits(count int) []bool {
	var bits []bool
	for range count {
		bits = append(bits, d.below(2) == 1)
	}
	return bits
}

// coder returns a valid coder.
func (d *drawn) coder() impl.Coder {
	c := coder(int64(1 + d.below(4)))
	for range 1 + d.below(4) {
		c.Masks = append(c.Masks, int64(1+d.below(1<<(c.Memory+1)-1)))
	}
	return c
}

func someCoders() []impl.Coder {
	return []impl.Coder{
		coder(1, 1), coder(1, 2), coder(1, 3), coder(1, 1, 3), coder(1, 3, 1), coder(1, 2, 2, 2, 2), coder(2, 7, 5), coder(2, 4), coder(2, 7, 7, 5), coder(3, 15, 13), coder(3, 8, 1, 8), coder(4, 1), coder(4, 31), coder(4, 16, 16), coder(4, 23, 25), coder(4, 21, 27, 31, 16),
	}
}

// notCoders are not valid.
func notCoders() []impl.Coder {
	return []impl.Coder{
		{}, coder(1), coder(4), {Memory: 1, Masks: []int64{}}, {Masks: []int64{1}}, coder(0, 1), coder(0, 0), coder(-1, 1), coder(5, 1), coder(5, 63), coder(6, 1, 1), coder(1<<32, 1), coder(1<<32+1, 1), coder(math.MaxInt64, 1), coder(math.MinInt64, 1), coder(62, 1), coder(63, 1), coder(64, 1),
		coder(1, 1, 2, 3, 1, 2), coder(4, 1, 1, 1, 1, 1), coder(2, repeated(100000, 1)...),
		coder(1, 0), coder(4, 0), coder(1, 4), coder(2, 8), coder(3, 16), coder(4, 32), coder(4, 33), coder(1, -1), coder(4, -31), coder(1, 3, 0), coder(1, 0, 3), coder(1, 3, 4), coder(1, 3, 3, 3, 4), coder(4, 31, 31, 32, 31), coder(4, 1<<32+1), coder(2, math.MaxInt64), coder(2, math.MinInt64), coder(2, math.MinInt64+1),
	}
}

func TestPromise8Coders(t *testing.T) {
	for _, c := range someCoders() {
		wantBool(t, fmt.Sprint("ValidCoder ", c), impl.ValidCoder(c), true)
	}
	for memory := int64(1); memory <= 4; memory++ {
		for mask := int64(-2); mask <= 70; mask++ {
			c := coder(memory, mask)
			wantBool(t, fmt.Sprint("ValidCoder ", c), impl.ValidCoder(c), mask >= 1 && mask < 2<<memory)
		}
	}
	for _, c := range notCoders() {
		what := fmt.Sprint(" ", c.Memory, len(c.Masks))
		wantBool(t, "ValidCoder"+what, impl.ValidCoder(c), false)
		for n := range 10 {
			soft := repeatedNumbers(1, n)
			wantText(t, "SendBits"+what, toldDigits(impl.SendBits(c, make([]bool, n))), "no")
			wantText(t, "BestWay"+what, toldWay(impl.BestWay(c, soft)), "no")
			wantText(t, "AllWays"+what, toldRow(impl.AllWays(c, soft)), "no")
			wantText(t, "WaysShared"+what, toldMany(impl.WaysShared(c, [][]float32{soft}, 1)), "no")
		}
		wantText(t, "WaysShared of no lists"+what, toldMany(impl.WaysShared(c, nil, 1)), "no")
	}
}

func TestPromise8SameCoder(t *testing.T) {
	all := append(someCoders(), notCoders()...)
	var texts []string
	for _, c := range all {
		texts = append(texts, fmt.Sprint(c))
	}
	for i, a := range all {
		for j, b := range all {
			wantBool(t, fmt.Sprint("SameCoder ", i, j), impl.SameCoder(a, b), texts[i] == texts[j])
		}
	}
	wantBool(t, "SameCoder without Masks", impl.SameCoder(coder(1), impl.Coder{Memory: 1, Masks: []int64{}}), true)
	wantBool(t, "SameCoder of clones", impl.SameCoder(coder(1, 3, 1), coder(1, 3, 1)), true)
	wantBool(t, "SameCoder with another Memory", impl.SameCoder(coder(2, 3), coder(1, 3)), false)
	wantBool(t, "SameCoder with another mask", impl.SameCoder(coder(1, 3, 1), coder(1, 3, 2)), false)
	wantBool(t, "SameCoder in another order", impl.SameCoder(coder(1, 3, 1), coder(1, 1, 3)), false)
	wantBool(t, "SameCoder with one mask more", impl.SameCoder(coder(1, 3, 1), coder(1, 3, 1, 1)), false)
}

// sentByMasks tells the bits that are sent by those of the last bits whose digits are in a mask.
func sentByMasks(c impl.Coder, bits []bool) string {
	all := append(slices.Clone(bits), make([]bool, c.Memory)...)
	var sent []bool
	for i := range all {
		for _, mask := range c.Masks {
			odd := false
			for back := 0; back <= int(c.Memory) && back <= i; back++ {
				odd = odd != (mask>>back&1 == 1 && all[i-back])
			}
			sent = append(sent, odd)
		}
	}
	return digitsOf(sent)
}

func TestPromise8SendBits(t *testing.T) {
	cases := []struct {
		c          impl.Coder
		bits, want string
	}{
		{coder(1, 1, 3), "1", "1101"}, {coder(1, 1, 3), "0", "0000"}, {coder(1, 1, 3), "", "00"}, {coder(1, 1, 3), "11", "111001"}, {coder(1, 3, 1), "1", "1110"}, {coder(1, 1), "10", "100"}, {coder(1, 2), "10", "010"}, {coder(1, 2), "01", "001"}, {coder(1, 1), "", "0"}, {coder(4, 1, 2, 4, 8), "", "0000000000000000"},
		{coder(2, 7, 5), "1", "111011"}, {coder(2, 7, 5), "1011", "111000010111"}, {coder(2, 4), "101", "00101"}, {coder(3, 15, 13), "1101", "11010111011111"}, {coder(4, 31), "1", "11111"}, {coder(4, 16, 1), "1001", "0100000110000010"}, {coder(4, 31, 16, 1, 21), "1", "10111000100110001101"},
	}
	for _, c := range cases {
		wantText(t, fmt.Sprint("SendBits ", c.c, c.bits), toldDigits(impl.SendBits(c.c, bools(c.bits))), c.want)
	}
	d := &drawn{80}
	for _, c := range someCoders() {
		for count := range 43 {
			bits := d.bits(count)
			want := sentByMasks(c, bits)
			if count > 40 {
				want = "no"
			}
			wantText(t, fmt.Sprint("SendBits ", c, digitsOf(bits)), toldDigits(impl.SendBits(c, bits)), want)
		}
		wantText(t, fmt.Sprint("SendBits ", c, " too many"), toldDigits(impl.SendBits(c, make([]bool, 100000))), "no")
	}
	for range 2000 {
		c, bits := d.coder(), d.bits(d.below(41))
		wantText(t, fmt.Sprint("SendBits ", c, digitsOf(bits)), toldDigits(impl.SendBits(c, bits)), sentByMasks(c, bits))
	}
}

// notFinite are bits of infinities and not-a-numbers.
func notFinite() []uint32 {
	return []uint32{plusInf, minusInf, noNumber, 0xffc00000, 0x7f800001, 0xffffffff}
}

// notSoft are no soft lists.
func notSoft() [][]float32 {
	lists := [][]float32{repeatedNumbers(1, 161), repeatedNumbers(0, 162), repeatedNumbers(-1, 100000), repeatedNumbers(num(noNumber), 161)}
	for _, bits := range notFinite() {
		lists = append(lists, chances(num(bits)), chances(num(bits), 1, 1, 1), chances(1, 1, 1, num(bits)), append(repeatedNumbers(1, 159), num(bits)))
	}
	return lists
}

func TestPromise8IsSoft(t *testing.T) {
	for _, soft := range [][]float32{nil, {}, {0}, {num(minusZero)}, {1, -1}, {most(), -most()}, {num(least), num(lastSub)}, repeatedNumbers(1, 160), repeatedNumbers(-most(), 159)} {
		wantBool(t, fmt.Sprint("IsSoft ", soft), impl.IsSoft(soft), true)
	}
	for _, soft := range notSoft() {
		wantBool(t, fmt.Sprint("IsSoft ", soft), impl.IsSoft(soft), false)
	}
}

func TestPromise8SoftOf(t *testing.T) {
	cases := []struct {
		bits   string
		strong uint32
		want   string
	}{
		{"101", plusOne, "3f800000,bf800000,3f800000"}, {"", plusOne, ""}, {"", plusZero, ""}, {"0", plusOne, "bf800000"}, {"01", 0xc0000000, "40000000,c0000000"}, {"10", plusZero, "00000000,80000000"}, {"10", minusZero, "80000000,00000000"}, {"10", greatest, "7f7fffff,ff7fffff"}, {"01", least, "80000001,00000001"}, {"1", 0xff7fffff, "ff7fffff"},
	}
	for _, c := range cases {
		wantText(t, fmt.Sprintf("SoftOf %s %08x", c.bits, c.strong), toldRow(impl.SoftOf(bools(c.bits), num(c.strong))), c.want)
	}
	for _, strong := range notFinite() {
		for _, bits := range []string{"", "0", "1", "10"} {
			wantText(t, fmt.Sprintf("SoftOf %s %08x", bits, strong), toldRow(impl.SoftOf(bools(bits), num(strong))), "no")
		}
	}
	wantText(t, "SoftOf 160 bits", toldRow(impl.SoftOf(make([]bool, 160), 2)), hex(repeatedNumbers(-2, 160)...))
	for _, count := range []int{161, 162, 176, 100000} {
		wantText(t, fmt.Sprint("SoftOf many bits ", count), toldRow(impl.SoftOf(make([]bool, count), 2)), "no")
	}
}

func TestPromise8HardOf(t *testing.T) {
	cases := []struct {
		soft []float32
		want string
	}{
		{nil, ""}, {chances(), ""}, {chances(1), "1"}, {chances(-1), "0"}, {chances(0), "0"}, {chances(num(minusZero)), "0"}, {chances(num(least), num(0x80000001), most(), -most()), "1010"}, {chances(-0.5, 0.5, 0, 3), "0101"}, {repeatedNumbers(1, 160), ones(160)}, {repeatedNumbers(0, 160), zeros(160)},
	}
	for _, c := range cases {
		wantText(t, fmt.Sprint("HardOf ", c.soft), toldDigits(impl.HardOf(c.soft)), c.want)
	}
	for _, soft := range notSoft() {
		wantText(t, fmt.Sprint("HardOf ", soft), toldDigits(impl.HardOf(soft)), "no")
	}
}

func TestPromise8HardAndSoftFitTogether(t *testing.T) {
	d := &drawn{81}
	for count := range 161 {
		bits := d.bits(count)
		for _, strong := range []float32{1, num(least), most(), 0.1} {
			soft, ok := impl.SoftOf(bits, strong)
			wantBool(t, "SoftOf succeeds", ok, true)
			wantText(t, fmt.Sprint("HardOf ", soft), toldDigits(impl.HardOf(soft)), digitsOf(bits))
		}
	}
}

func TestPromise8PointsOf(t *testing.T) {
	cases := []struct {
		bits, want string
	}{
		{"", ""}, {"10", "3f800000bf800000,"}, {"01", "bf8000003f800000,"}, {"11", "3f8000003f800000,"}, {"00", "bf800000bf800000,"}, {"1101", "3f8000003f800000,bf8000003f800000,"}, {"001011", "bf800000bf800000,3f800000bf800000,3f8000003f800000,"},
		{"0", "no"}, {"1", "no"}, {"101", "no"}, {zeros(159), "no"}, {zeros(161), "no"}, {zeros(162), "no"}, {ones(162), "no"}, {ones(100000), "no"},
	}
	for _, c := range cases {
		wantText(t, "PointsOf "+c.bits, toldPoints(impl.PointsOf(bools(c.bits))), c.want)
	}
	wantText(t, "PointsOf 160 bits", toldPoints(impl.PointsOf(bools(ones(160)))), resultText(repeatedComplexes(complex(1, 1), 80)))
}

func TestPromise8SoftPoints(t *testing.T) {
	cases := []struct {
		points []complex64
		noise  uint32
		want   string
	}{
		{nil, plusOne, ""}, {[]complex64{complex(1, -1)}, 0x3f000000, "40800000,c0800000"}, {[]complex64{complex(1, -1)}, plusOne, "40000000,c0000000"}, {[]complex64{complex(0.1, 0.3), complex(-0.2, 7)}, 0x3f333333, "3e924925,3f5b6db8,bf124925,41a00000"}, {[]complex64{pair(plusZero, minusZero)}, plusOne, "00000000,80000000"},
		{[]complex64{complex(1, 1)}, greatest, "00400000,00400000"}, {[]complex64{complex(0.1, -0.1)}, greatest, "00066666,80066666"}, {[]complex64{pair(0x7effffff, 0xfeffffff)}, plusOne, "7f7fffff,ff7fffff"},
		// The doubles are rounded before they are divided, and so are too great here.
		{[]complex64{pair(greatest, 0)}, 0x40000000, "no"}, {[]complex64{pair(0, 0xff000000)}, 0x4b000000, "no"}, {[]complex64{pair(0, 0x7f000000)}, greatest, "no"}, {[]complex64{pair(0x7f000000, plusOne), 1}, plusOne, "no"},
		{[]complex64{complex(1, 0)}, least, "no"}, {[]complex64{complex(0, -1)}, firstFull - 1, "00000000,ff000001"}, {[]complex64{complex(0, -3)}, firstFull - 1, "no"}, {[]complex64{pair(least, 0)}, least, "40000000,00000000"}, {[]complex64{complex(1, 1), complex(1, 1e30)}, 0x2edbe6ff, "no"},
		{[]complex64{1}, plusZero, "no"}, {[]complex64{1}, minusZero, "no"}, {[]complex64{0}, plusZero, "no"}, {nil, plusZero, "no"}, {[]complex64{1}, 0xbf800000, "no"}, {[]complex64{1}, 0x80000001, "no"}, {nil, 0xbf800000, "no"}, {nil, 0xff7fffff, "no"},
		{repeatedComplexes(1, 81), plusOne, "no"}, {repeatedComplexes(1, 82), plusOne, "no"}, {repeatedComplexes(0, 160), plusOne, "no"}, {make([]complex64, 100000), plusOne, "no"},
	}
	for _, c := range cases {
		wantText(t, fmt.Sprintf("SoftPoints %v %08x", c.points, c.noise), toldRow(impl.SoftPoints(c.points, num(c.noise))), c.want)
	}
	wantText(t, "SoftPoints of 80", toldRow(impl.SoftPoints(repeatedComplexes(complex(1, 1), 80), 1)), hex(repeatedNumbers(2, 160)...))
	for _, bits := range notFinite() {
		for _, points := range [][]complex64{{pair(bits, plusOne)}, {pair(plusOne, bits)}, {1, 1, pair(bits, bits)}, append(repeatedComplexes(1, 79), pair(plusOne, bits))} {
			wantText(t, fmt.Sprint("SoftPoints ", points), toldRow(impl.SoftPoints(points, 1)), "no")
			wantText(t, fmt.Sprint("SoftPoints ", points), toldRow(impl.SoftPoints(points, most())), "no")
		}
		wantText(t, fmt.Sprintf("SoftPoints with the noise %08x", bits), toldRow(impl.SoftPoints([]complex64{1}, num(bits))), "no")
		wantText(t, fmt.Sprintf("SoftPoints of none with the noise %08x", bits), toldRow(impl.SoftPoints(nil, num(bits))), "no")
	}
}

// Points lead back to the bits they are made of.
func TestPromise8PointsLeadBack(t *testing.T) {
	d := &drawn{82}
	for count := 0; count <= 160; count += 2 {
		bits := d.bits(count)
		points, _ := impl.PointsOf(bits)
		for _, noise := range []float32{0.1, 1, 7, most()} {
			soft, ok := impl.SoftPoints(points, noise)
			wantBool(t, "SoftPoints succeeds", ok, true)
			want, _ := impl.SoftOf(bits, 2/noise)
			wantText(t, fmt.Sprint("SoftPoints ", points, noise), hex(soft...), hex(want...))
		}
	}
}
