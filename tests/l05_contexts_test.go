package tests

import (
	"fmt"
	"math"
	"slices"
	"strings"
	"testing"

	"loop.example/g01364/impl"
)

// guessed is a text of bits, and what they cost by contexts of 0 to 4 bits.
type guessed struct {
	bits  string
	costs [5]string
}

func allCosts(cost string) [5]string { return [5]string{cost, cost, cost, cost, cost} }

func badDeeps() []int64 {
	return integers(-1, 5, 6, 63, 64, math.MaxInt64, math.MinInt64)
}

func TestPromise6GuessBits(t *testing.T) {
	cases := []guessed{
		{"", allCosts("00000000")}, {"0", allCosts("3f800000")}, {"1", allCosts("3f800000")}, {"00", allCosts("3fb51ff3")}, {"01", allCosts("40400000")}, {"10", [5]string{"40400000", "40000000", "40000000", "40000000", "40000000"}}, {"11", [5]string{"3fb51ff3", "40000000", "40000000", "40000000", "40000000"}},
		{"0110", [5]string{"40ad47fd", "40c00000", "40a00000", "40a00000", "40a00000"}}, {zeros(10), allCosts("40204da3")}, {ones(10), [5]string{"40204da3", "405b9136", "408b2514", "40a82a53", "40c4be79"}}, {strings.Repeat("01", 5), [5]string{"41405d10", "40ef4f0d", "40d7b9d4", "40f18fae", "4105b2c5"}},
		{"1101001000101110", [5]string{"4192c944", "4198215e", "41a410af", "41a351ff", "41980000"}}, {strings.Repeat("0011", 200), [5]string{"4449497f", "444a52c9", "42093eda", "41b4aaf5", "41bca390"}},
		// Bits of MaxTold.
		{ones(1024), [5]string{"40ba6dfb", "40da6837", "40fa626f", "410d2e54", "411d2b75"}}, {strings.Repeat("01", 512), [5]string{"4480aa72", "41a53a8f", "415a63ee", "416a5e25", "417a585d"}}, {zeros(512) + ones(512), [5]string{"4480aa69", "41a53a8f", "41ad37ab", "41b534c5", "41bd31de"}}, {"1" + zeros(1023), [5]string{"41869a0a", "418e95b6", "41969161", "419e8d06", "41a688af"}},
	}
	for _, c := range cases {
		for deep, cost := range c.costs {
			wantText(t, fmt.Sprint("GuessBits ", c.bits, deep), toldNumber(impl.GuessBits(bools(c.bits), int64(deep))), cost)
		}
		for _, deep := range badDeeps() {
			wantText(t, fmt.Sprint("GuessBits ", c.bits, deep), toldNumber(impl.GuessBits(bools(c.bits), deep)), "no")
		}
	}
	for deep := range int64(5) {
		wantText(t, fmt.Sprint("GuessBits of too many bits, ", deep), toldNumber(impl.GuessBits(make([]bool, 1025), deep)), "no")
		wantText(t, fmt.Sprint("GuessBits of too many bits, ", deep), toldNumber(impl.GuessBits(make([]bool, 100000), deep)), "no")
	}
}

func TestPromise6WeighBits(t *testing.T) {
	cases := []guessed{
		// The opposite of the logarithm of 1 is -0.
		{"", allCosts("80000000")}, {"0", allCosts("3f800000")}, {"1", allCosts("3f800000")}, {"00", allCosts("3fb51ff3")}, {"01", allCosts("40400000")}, {"10", [5]string{"40400000", "401a8ff9", "401a8ff9", "401a8ff9", "401a8ff9"}}, {"11", [5]string{"3fb51ff3", "3fd6cb0f", "3fd6cb0f", "3fd6cb0f", "3fd6cb0f"}},
		{"0110", [5]string{"40ad47fd", "40b5b2c4", "40ad47fd", "40ad47fd", "40ad47fd"}}, {zeros(10), allCosts("40204da1")}, {ones(10), [5]string{"40204da1", "40394284", "4041129d", "40433cf1", "4043d156"}}, {strings.Repeat("01", 5), [5]string{"41405d11", "4106af8c", "41004894", "4102d03b", "41045b17"}},
		{"1101001000101110", [5]string{"4192c944", "419526d4", "4196e2b0", "4196b9a2", "41965e9a"}}, {strings.Repeat("0011", 200), [5]string{"4449497d", "4449846a", "42153edf", "41d4aa1a", "41d63395"}},
		{ones(1024), [5]string{"40ba6dfc", "40c7b40d", "40cbb838", "40ccc803", "40cd0cfa"}}, {strings.Repeat("01", 512), [5]string{"4480aa9c", "41ad3a9d", "417a3606", "417d4a47", "41802c01"}}, {zeros(512) + ones(512), [5]string{"4480aa73", "41ad3a97", "41b08b9f", "41b18ca0", "41b1d097"}}, {"1" + zeros(1023), [5]string{"41869a19", "4189eaa6", "418aeb9b", "418b2f98", "418b40dd"}},
	}
	for _, c := range cases {
		for deep, cost := range c.costs {
			wantText(t, fmt.Sprint("WeighBits ", c.bits, deep), toldNumber(impl.WeighBits(bools(c.bits), int64(deep))), cost)
		}
		for _, deep := range badDeeps() {
			wantText(t, fmt.Sprint("WeighBits ", c.bits, deep), toldNumber(impl.WeighBits(bools(c.bits), deep)), "no")
		}
	}
	for deep := range int64(5) {
		wantText(t, fmt.Sprint("WeighBits of too many bits, ", deep), toldNumber(impl.WeighBits(make([]bool, 1025), deep)), "no")
		wantText(t, fmt.Sprint("WeighBits of too many bits, ", deep), toldNumber(impl.WeighBits(make([]bool, 100000), deep)), "no")
	}
}

// costByText returns what bits cost by contexts of deep bits, in 64-bit numbers: each context is looked for in all bits before.
func costByText(bits string, deep int) float64 {
	sum := 0.0
	padded := zeros(deep) + bits
	for i := range len(bits) {
		same, all := 0.5, 1.0
		for k := range i {
			if padded[k:k+deep] == padded[i:i+deep] {
				all++
				if bits[k] == bits[i] {
					same++
				}
			}
		}
		sum -= math.Log2(same / all)
	}
	return sum
}

func (d *drawn) repetitive(count int) string {
	part := d.digits(1 + d.below(7))
	text := []byte(strings.Repeat(part, 1+count/len(part))[:count])
	for i := range text {
		if d.below(20) == 0 {
			text[i] = "01"[d.below(2)]
		}
	}
	return string(text)
}

func TestPromise6GuessesAreNearLogarithms(t *testing.T) {
	d := &drawn{57}
	for range 200 {
		bits, deep := d.repetitive(d.below(150)), d.below(5)
		cost, ok := impl.GuessBits(bools(bits), int64(deep))
		wantBool(t, fmt.Sprint("GuessBits ", bits, deep, cost), ok && math.Abs(float64(cost)-costByText(bits, deep)) < 0.001, true)
	}
}

// All contexts together cost little more than those of the best length.
func TestPromise6WeighedBitsAreNearTheBestGuess(t *testing.T) {
	d := &drawn{58}
	for range 500 {
		bits, deep := bools(d.repetitive(d.below(1025))), d.below(5)
		weighed, ok := impl.WeighBits(bits, int64(deep))
		wantBool(t, "WeighBits", ok, true)
		for looks := range deep + 1 {
			guess, _ := impl.GuessBits(bits, int64(looks))
			more := float32(int(1)<<(looks+1) - 1)
			if looks == deep {
				more = float32(int(1)<<looks - 1)
			}
			wantBool(t, fmt.Sprint("WeighBits ", digitsOf(bits), deep, weighed, " against ", guess), weighed <= guess+more+0.01, true)
		}
	}
}

// finest is the greatest number less than 1.
func finest() float32 { return num(0x3f7fffff) }

// most is the greatest finite number.
func most() float32 { return num(greatest) }

// tenths are weights from -0.7 to 0.8, and twentieths chances from 0.05 to 0.8.
func tenths() []float32 {
	var list []float32
	for i := range 16 {
		list = append(list, float32(0.1*float64(i)-0.7))
	}
	return list
}

func twentieths() []float32 {
	var list []float32
	for i := range 16 {
		list = append(list, float32(float64(i+1)/20))
	}
	return list
}

// mixing has weights and chances.
type mixing struct {
	weights, chances []float32
}

func (m mixing) String() string { return hex(m.weights...) + " for " + hex(m.chances...) }

// notMixed cannot be mixed.
func notMixed() []mixing {
	infinite, none := num(plusInf), num(noNumber)
	all := []mixing{
		{nil, nil}, {chances(1), nil}, {nil, halves()}, {chances(1), halves()}, {chances(1, 1), chances(0.5)}, {repeatedNumbers(1, 17), repeatedNumbers(0.5, 17)}, {repeatedNumbers(1, 16), repeatedNumbers(0.5, 17)}, {repeatedNumbers(1, 17), repeatedNumbers(0.5, 16)}, {repeatedNumbers(1, 100000), repeatedNumbers(0.5, 100000)},
	}
	for _, chance := range chances(0, num(minusZero), 1, -0.5, 1.5, num(0x3f800001), num(0x80000001), infinite, -infinite, none) {
		all = append(all, mixing{chances(0), chances(chance)}, mixing{chances(1, 1), chances(0.5, chance)}, mixing{chances(1, 1), chances(chance, 0.5)})
	}
	for _, weight := range chances(infinite, -infinite, none) {
		all = append(all, mixing{chances(weight), chances(0.75)}, mixing{chances(weight), chances(0.5)}, mixing{chances(1, weight), halves()}, mixing{chances(weight, 1), chances(0.75, 0.25)})
	}
	return all
}

func TestPromise6MixChance(t *testing.T) {
	cases := []struct {
		m    mixing
		want string
	}{
		{mixing{chances(1), chances(0.75)}, "3f400001"}, {mixing{chances(0), chances(0.75)}, "3f000000"}, {mixing{chances(-1), chances(0.75)}, "3e800000"}, {mixing{chances(1), chances(0.5)}, "3f000000"}, {mixing{chances(num(minusZero)), chances(0.75)}, "3f000000"}, {mixing{chances(2, -1), chances(0.9, 0.2)}, "3f7f3659"},
		{mixing{chances(0.3, 0.3, 0.4), chances(0.1, 0.6, 0.95)}, "3f27a198"}, {mixing{repeatedNumbers(1.5, 16), repeatedNumbers(0.55, 16)}, "3f7df187"}, {mixing{tenths(), twentieths()}, "3f7fef0f"}, {mixing{chances(3, 5), chances(0.001, 0.999)}, "3f7ffff0"},
		// Chances near 0 and near 1.
		{mixing{chances(1), chances(num(least))}, "00000000"}, {mixing{chances(-1), chances(num(least))}, "3f800000"}, {mixing{chances(1), chances(finest())}, "3f800000"}, {mixing{chances(-1), chances(finest())}, "33800000"}, {mixing{chances(1), chances(num(firstFull))}, "007fffe6"}, {mixing{chances(7), chances(1e-6)}, "00000000"},
		// Great weights, for which the sum can be infinite, or the power of it.
		{mixing{chances(100), chances(0.7)}, "3f800000"}, {mixing{chances(-100), chances(0.7)}, "0258e1ad"}, {mixing{chances(-110), chances(0.7)}, "00000000"}, {mixing{chances(-240), chances(0.7)}, "00000000"}, {mixing{chances(240), chances(0.7)}, "3f800000"}, {mixing{chances(most()), chances(0.75)}, "3f800000"}, {mixing{chances(-most()), chances(0.75)}, "00000000"},
		{mixing{chances(most()), chances(0.5)}, "3f000000"}, {mixing{chances(most(), most()), chances(0.9, 0.9)}, "3f800000"}, {mixing{chances(most(), -most()), chances(0.9, 0.1)}, "3f800000"},
		// The sum is not a number.
		{mixing{chances(most(), most()), chances(0.75, 0.25)}, "no"}, {mixing{chances(most(), most()), chances(0.9, 0.1)}, "no"}, {mixing{chances(most(), -most()), chances(0.9, 0.9)}, "no"},
	}
	for _, c := range cases {
		wantText(t, "MixChance "+c.m.String(), toldNumber(impl.MixChance(c.m.weights, c.m.chances)), c.want)
	}
	for _, m := range notMixed() {
		wantText(t, "MixChance "+m.String(), toldNumber(impl.MixChance(m.weights, m.chances)), "no")
	}
}

func TestPromise6MixLearn(t *testing.T) {
	infinite, minus := num(plusInf), num(minusZero)
	cases := []struct {
		m    mixing
		bit  bool
		rate float32
		want string
	}{
		{mixing{chances(0), chances(0.5)}, true, 1, "00000000"}, {mixing{chances(0), chances(0.75)}, true, 1, "3f0c9f54"}, {mixing{chances(0), chances(0.75)}, false, 1, "bf0c9f54"}, {mixing{chances(1), chances(0.75)}, true, 1, "3fa327d4"}, {mixing{chances(1), chances(0.75)}, true, -3, "3e344414"},
		{mixing{chances(2, -1), chances(0.9, 0.2)}, true, 0.5, "40003762,bf8045e3"}, {mixing{chances(2, -1), chances(0.9, 0.2)}, false, 0.5, "3f679ee4,be9e335c"}, {mixing{chances(0.3, 0.3, 0.4), chances(0.1, 0.6, 0.95)}, true, 0.02, "3e91d557,3e9b0881,3ed73536"}, {mixing{chances(0.3, 0.3, 0.4), chances(0.1, 0.6, 0.95)}, false, 0.02, "3ea8553c,3e96e19a,3eb90e8b"},
		{mixing{tenths(), twentieths()}, true, 0.25, "bf333fac,bf19a2e8,bf000759,beccd88b,be99a2e8,be4cdb28,bdcce1c7,b7dbd014,3dccc600,3e4ccccd,3e999b4d,3eccd03c,3f00029f,3f199d31,3f3337da,3f4cd2ac"},
		{mixing{chances(1), chances(0.75)}, true, 0, "3f800000"}, {mixing{chances(1), chances(0.75)}, false, minus, "3f800000"}, {mixing{chances(minus), chances(0.5)}, true, 1, "00000000"}, {mixing{chances(minus), chances(0.5)}, false, 1, "80000000"}, {mixing{chances(minus), chances(0.5)}, false, -1, "00000000"},
		{mixing{chances(1), chances(num(least))}, true, 1, "c2cc8ed0"}, {mixing{chances(1), chances(num(least))}, false, 1, "3f800000"}, {mixing{chances(1), chances(finest())}, false, 1, "c17a2b24"}, {mixing{chances(1), chances(finest())}, true, 1, "3f800000"}, {mixing{chances(100), chances(0.7)}, true, 1, "42c80000"}, {mixing{chances(240), chances(0.7)}, false, 1, "436f2717"},
		{mixing{chances(1), chances(0.75)}, false, most(), "ff52eefe"}, {mixing{chances(1), chances(0.75)}, true, most(), "7e8c9f51"}, {mixing{chances(most()), chances(0.75)}, true, 1, "7f7fffff"}, {mixing{chances(most()), chances(0.75)}, false, 1, "7f7fffff"}, {mixing{chances(-most()), chances(0.75)}, true, 1, "ff7fffff"},
		// What is returned would not be finite, or what is mixed is not.
		{mixing{chances(most()), chances(0.75)}, false, -1e32, "no"}, {mixing{chances(-most()), chances(0.75)}, true, -1e32, "no"}, {mixing{chances(most(), most()), chances(0.9, 0.1)}, true, 1, "no"}, {mixing{chances(most(), most()), chances(0.9, 0.1)}, false, 0, "no"},
		{mixing{chances(1), chances(0.5)}, true, infinite, "no"}, {mixing{chances(1), chances(0.75)}, true, -infinite, "no"}, {mixing{chances(1), chances(0.75)}, true, num(noNumber), "no"}, {mixing{chances(1, 2), chances(0.5, 0.75)}, false, infinite, "no"}, {mixing{chances(2, 1, 2), chances(0.75, 0.001, 0.75)}, true, most(), "no"},
	}
	for _, c := range cases {
		wantText(t, fmt.Sprint("MixLearn ", c.m, c.bit, c.rate), toldRow(impl.MixLearn(c.m.weights, c.m.chances, c.bit, c.rate)), c.want)
	}
	for _, m := range notMixed() {
		for _, rate := range chances(0, 1, -0.5) {
			wantText(t, fmt.Sprint("MixLearn ", m, rate), toldRow(impl.MixLearn(m.weights, m.chances, true, rate)), "no")
			wantText(t, fmt.Sprint("MixLearn ", m, rate), toldRow(impl.MixLearn(m.weights, m.chances, false, rate)), "no")
		}
	}
}

// What is learned makes the bit that came more likely.
func TestPromise6LearnedWeightsAreBetter(t *testing.T) {
	d := &drawn{59}
	for range 1000 {
		n := 1 + d.below(16)
		weights, told := make([]float32, n), make([]float32, n)
		for i := range n {
			weights[i], told[i] = float32(d.below(200)-100)/100, float32(1+d.below(98))/100
		}
		bit := d.below(2) == 0
		learned, ok := impl.MixLearn(weights, told, bit, 0.01)
		before, _ := impl.MixChance(weights, told)
		after, _ := impl.MixChance(learned, told)
		if !bit {
			before, after = -before, -after
		}
		wantBool(t, fmt.Sprint("MixLearn ", mixing{weights, told}, bit, before, after), ok && after >= before-1e-6, true)
	}
	weights := chances(0, 0)
	for range 100 {
		weights, _ = impl.MixLearn(weights, chances(0.9, 0.2), true, 0.1)
	}
	mixed, ok := impl.MixChance(weights, chances(0.9, 0.2))
	wantBool(t, fmt.Sprint("after many bits: ", weights, mixed), ok && mixed > 0.97 && mixed < 1 && slices.Min(weights) < 0, true)
}
