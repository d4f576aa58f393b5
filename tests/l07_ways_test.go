package tests

import (
	"fmt"
	"math"
	"slices"
	"strings"
	"testing"

	"loop.example/g01364/impl"
)

func toldWay(bits []bool, gain float32, ok bool) string {
	return outcome(digitsOf(bits)+" gains "+hex(gain), len(bits) == 0 && bitsOf(gain) == plusZero, ok)
}

func toldMany(many [][]bool, ok bool) string {
	var texts []string
	for _, bits := range many {
		texts = append(texts, digitsOf(bits))
	}
	return outcome(strings.Join(texts, ","), len(many) == 0, ok)
}

// signs returns a number for each digit: 1 for `1`, -1 for `0`, and 0 for others.
func signs(digits string) []float32 {
	var soft []float32
	for _, digit := range digits {
		soft = append(soft, map[rune]float32{'0': -1, '1': 1}[digit])
	}
	return soft
}

// few returns count numbers that are multiples of 1/2, some of which are 0.
func (d *drawn) few(count int) []float32 {
	var soft []float32
	for range count {
		soft = append(soft, float32(d.below(9)-4)/2)
	}
	return soft
}

// statesOf returns the states before all bits of a way, the last one first.
func statesOf(c impl.Coder, bits []bool) []int64 {
	states, state := integers(0), int64(0)
	for _, bit := range append(slices.Clone(bits), make([]bool, c.Memory)...) {
		state *= 2
		if bit {
			state++
		}
		state %= 1 << c.Memory
		states = append(states, state)
	}
	slices.Reverse(states)
	return states
}

// gainOf returns the gain of bits that are sent.
func gainOf(sent []bool, soft []float32) float64 {
	gain := 0.0
	for i, bit := range sent {
		if bit {
			gain += float64(soft[i])
		} else {
			gain -= float64(soft[i])
		}
	}
	return gain
}

// waysOf returns the bits of all ways of n bits.
func waysOf(n int) [][]bool {
	ways := [][]bool{nil}
	for range n {
		for _, way := range slices.Clone(ways) {
			ways = append(ways, append(slices.Clone(way), true))
		}
		for i := range len(ways) / 2 {
			ways[i] = append(ways[i], false)
		}
	}
	return ways
}

// bestOfAll tries all ways of n bits. The first state before of several is taken from the end on, so of several ways
// with the same gain, that one is best whose states, the last one first, are the least ones.
func bestOfAll(c impl.Coder, n int, soft []float32) string {
	var best []bool
	greatestGain := math.Inf(-1)
	for _, way := range waysOf(n) {
		sent, _ := impl.SendBits(c, way)
		gain := gainOf(sent, soft)
		if gain > greatestGain || gain == greatestGain && slices.Compare(statesOf(c, way), statesOf(c, best)) < 0 {
			best, greatestGain = way, gain
		}
	}
	return toldWay(best, float32(greatestGain), true)
}

func TestPromise8BestWay(t *testing.T) {
	high := most()
	cases := []struct {
		c    impl.Coder
		soft []float32
		want string
	}{
		{coder(1, 1, 3), chances(2, 2, -2, 2), "1 gains 41000000"}, {coder(1, 1, 3), signs("1101"), "1 gains 40800000"}, {coder(1, 1, 3), signs("0000"), "0 gains 40800000"}, {coder(1, 1, 3), signs("0101"), "1 gains 40000000"}, {coder(1, 1, 3), signs("00"), " gains 40000000"}, {coder(1, 1, 3), signs("11"), " gains c0000000"}, {coder(1, 1), chances(0.1), " gains bdcccccd"}, {coder(1, 1), chances(0), " gains 00000000"}, {coder(1, 1), chances(num(minusZero)), " gains 00000000"}, {coder(4, 3), chances(1, 2, 3, 4), " gains c1200000"},
		// One wrong bit, or two, are mended.
		{coder(2, 7, 5), signs("111000010111"), "1011 gains 41400000"}, {coder(2, 7, 5), signs("110000010111"), "1011 gains 41200000"}, {coder(2, 7, 5), signs("011000010110"), "1011 gains 41000000"}, {coder(2, 7, 5), signs("1.1.0.0.0.1."), "1011 gains 40c00000"}, {coder(2, 7, 5), signs(".1.0.0.1.1.1"), "1011 gains 40c00000"},
		// Several ways gain the same.
		{coder(1, 1, 3), signs("...."), "0 gains 00000000"}, {coder(1, 1, 3), signs("......"), "00 gains 00000000"}, {coder(2, 7, 5), signs("............"), "0000 gains 00000000"}, {coder(1, 3), signs("0.0"), "00 gains 40000000"}, {coder(1, 3), signs(".10."), "100 gains 40000000"}, {coder(2, 5), signs("1...1"), "101 gains 40000000"}, {coder(1, 1, 3), repeatedNumbers(num(minusZero), 8), "000 gains 00000000"}, {coder(2, 5), signs("..11..11"), "110011 gains 40800000"}, {coder(2, 4, 1), signs("1.1.1.1.1.1.1.1."), "111111 gains 40800000"}, {coder(3, 9, 2), signs("1.0101.10.1.1101"), "10110 gains 40800000"}, {coder(1, 3), signs("1.1.1.1"), "110101 gains 40800000"},
		// Small numbers that are added to great ones change nothing.
		{coder(1, 1), chances(16777216, 1, 1, 1, 0), "1101 gains 4b800000"}, {coder(1, 1), chances(1, 1, 1, 16777216, 0), "1111 gains 4b800002"}, {coder(1, 1, 2), chances(0.1, 0.7, -0.3, 0.9, 1e-9, 0.2, 33, -5), "100 gains c1dccccc"}, {coder(1, 2, 3), chances(0.1, 0.2, -0.3, 0.3, 1.7, 0.6, -0.9, 0.1), "010 gains 4059999a"}, {coder(2, 7, 5), chances(0.3, -1.1, 0.7, 0.2, -0.4, 1.9, 0.6, -0.8, 0.5, 0.1, 0.2, -0.3), "0111 gains 409ccccc"},
		{coder(1, 1), chances(num(least), 0), "1 gains 00000001"}, {coder(1, 1), chances(num(0x80000001), 0), "0 gains 00000001"},
		// A gain is not finite.
		{coder(1, 1), chances(high), " gains ff7fffff"}, {coder(1, 1), chances(high, high), "1 gains 00000000"}, {coder(1, 1, 1), chances(high, high, 0, 0), "no"}, {coder(1, 1, 1), chances(high, high, -high, -high), "no"}, {coder(1, 1), chances(-high, 0, high), "00 gains 00000000"}, {coder(1, 1, 1), chances(0, 0, high, high), "no"}, {coder(1, 1), chances(high, 0), "1 gains 7f7fffff"}, {coder(1, 1), chances(high, num(0x73000000), 0), "no"}, {coder(1, 1), chances(high, num(0x72ffffff), 0), "10 gains 7f7fffff"}, {coder(1, 1, 1), chances(-high, -high, 0, 0), "no"}, {coder(1, 1, 1), chances(high, high), "no"}, {coder(1, 1, 1), chances(-high, -high), "no"},
		// The way with the greatest gain, which is finite, is not changed by others that are not.
		{coder(1, 1, 1), chances(0, 0, high, -high, 0, 0), "00 gains 00000000"}, {coder(1, 3, 2), chances(0, high, 0, high, 0, 0), "10 gains 00000000"}, {coder(1, 1, 2), chances(high, high, -high, -high, 0, 0), "10 gains 00000000"}, {coder(2, 7, 5), chances(high, -high, high, -high, high, -high, high, -high), "no"},
		// The numbers are too few, too many, or no multiple of how many masks there are.
		{coder(1, 1), nil, "no"}, {coder(1, 1, 3), chances(1), "no"}, {coder(1, 1, 3), nil, "no"}, {coder(1, 1, 3), chances(1, 1, 1), "no"}, {coder(4, 3), chances(1, 2, 3), "no"}, {coder(4, 3, 3), repeatedNumbers(1, 6), "no"}, {coder(2, 1, 1, 1), repeatedNumbers(1, 7), "no"}, {coder(4, 1, 1, 1, 1), repeatedNumbers(1, 12), "no"},
	}
	for _, c := range cases {
		wantText(t, fmt.Sprint("BestWay ", c.c, hex(c.soft...)), toldWay(impl.BestWay(c.c, c.soft)), c.want)
	}
	for _, soft := range notSoft() {
		for _, c := range []impl.Coder{coder(1, 1), coder(1, 1, 3), coder(1, 1, 3, 1, 3), coder(4, 1)} {
			wantText(t, fmt.Sprint("BestWay ", c, soft), toldWay(impl.BestWay(c, soft)), "no")
			wantText(t, fmt.Sprint("AllWays ", c, soft), toldRow(impl.AllWays(c, soft)), "no")
		}
	}
}

// The numbers of a way are those of 0 to MaxSent bits, or at most MaxSoft.
func TestPromise8LengthsOfWays(t *testing.T) {
	d := &drawn{83}
	for _, c := range someCoders() {
		masks := len(c.Masks)
		for count := range 166 {
			soft := d.few(count)
			n := count/masks - int(c.Memory)
			bits, _, ok := impl.BestWay(c, soft)
			wants := count%masks == 0 && n >= 0 && n <= 40 && count <= 160
			wantBool(t, fmt.Sprint("BestWay succeeds ", c, count), ok, wants)
			all, ok := impl.AllWays(c, soft)
			wantBool(t, fmt.Sprint("AllWays succeeds ", c, count), ok, wants)
			if wants && (len(bits) != n || len(all) != n) {
				t.Errorf("ways of %v and %d numbers have %d and %d bits", c, count, len(bits), len(all))
			}
		}
	}
}

func TestPromise8BestWayIsBest(t *testing.T) {
	d := &drawn{84}
	for i := range 1500 {
		c, n := d.coder(), i%8
		soft := d.few(len(c.Masks) * (n + int(c.Memory)))
		wantText(t, fmt.Sprint("BestWay ", c, soft), toldWay(impl.BestWay(c, soft)), bestOfAll(c, n, soft))
	}
}

// Gains are told in order, each operation rounded, so the gain is that of the way that is returned.
func TestPromise8GainIsThatOfTheWay(t *testing.T) {
	d := &drawn{85}
	for range 1000 {
		c := d.coder()
		soft := d.soft(len(c.Masks) * (d.below(160/len(c.Masks)+1-int(c.Memory)) + int(c.Memory)))
		bits, gain, ok := impl.BestWay(c, soft)
		if !ok {
			continue
		}
		sent, _ := impl.SendBits(c, bits)
		want := float32(0)
		for i, bit := range sent {
			if bit {
				want += soft[i]
			} else {
				want -= soft[i]
			}
		}
		wantNumber(t, fmt.Sprint("gain of ", c, soft), gain, want)
	}
}

// soft returns count numbers of many sizes.
func (d *drawn) soft(count int) []float32 {
	var soft []float32
	for range count {
		soft = append(soft, float32(d.below(2001)-1000)*[]float32{0, 0.001, 0.0037, 0.02, 1e-20, 1}[d.below(6)])
	}
	return soft
}

func TestPromise8BestWayOfWhatWasSent(t *testing.T) {
	d := &drawn{86}
	for i := range 3000 {
		c, bits := d.coder(), d.bits(d.below(41))
		if i < 16*41 {
			c, bits = someCoders()[i%16], d.bits(i/16)
		}
		sent, _ := impl.SendBits(c, bits)
		for _, strong := range []float32{1, 0.3, 1e-30, 1e36} {
			soft, ok := impl.SoftOf(sent, strong)
			if !ok {
				continue
			}
			best, gain, _ := impl.BestWay(c, soft)
			wantText(t, fmt.Sprint("BestWay of what was sent ", c), digitsOf(best), digitsOf(bits))
			if strong == 1 {
				wantNumber(t, fmt.Sprint("gain of what was sent ", c), gain, float32(len(sent)))
			}
		}
		// With numbers as great as this one, all other ways together are less likely.
		soft, ok := impl.SoftOf(sent, 40)
		all, done := impl.AllWays(c, soft)
		wantBool(t, fmt.Sprint("AllWays of what was sent ", c), done, ok)
		hard, _ := impl.HardOf(all)
		if ok {
			wantText(t, fmt.Sprint("AllWays of what was sent ", c), digitsOf(hard), digitsOf(bits))
		}
	}
}

// Any single wrong bit of these coders is mended, and so are any two far from each other.
func TestPromise8BestWayMendsWrongBits(t *testing.T) {
	d := &drawn{87}
	for _, c := range []impl.Coder{coder(2, 7, 5), coder(3, 15, 13), coder(4, 23, 25), coder(2, 7, 7, 5)} {
		bits := d.bits(16)
		sent, _ := impl.SendBits(c, bits)
		for wrong := range sent {
			soft, _ := impl.SoftOf(sent, 1)
			soft[wrong] = -soft[wrong]
			wantText(t, fmt.Sprint("BestWay mends ", c, wrong), toldWay(impl.BestWay(c, soft)), digitsOf(bits)+" gains "+hex(float32(len(sent)-2)))
			far := (wrong + len(soft)/2) % len(soft)
			soft[far] = -soft[far]
			wantText(t, fmt.Sprint("BestWay mends ", c, wrong, far), toldWay(impl.BestWay(c, soft)), digitsOf(bits)+" gains "+hex(float32(len(sent)-4)))
		}
	}
}

func TestPromise8AllWays(t *testing.T) {
	high := most()
	cases := []struct {
		c    impl.Coder
		soft []float32
		want string
	}{
		{coder(1, 1, 3), chances(2, 2, -2, 2), "40c00000"}, {coder(1, 1), chances(1, 0), "3f800000"}, {coder(1, 1), chances(1), ""}, {coder(1, 1), chances(0.1, -0.2, 0.3, 5), "3dccccc0,be4cccc8,3e999998"}, {coder(1, 1), chances(num(least), 0), "00000000"}, {coder(1, 2), chances(5, -3, 0.1), "c0400000,3dccccc8"}, {coder(4, 3), chances(1, 2, 3, 4), ""}, {coder(4, 1), chances(7, 1, 2, 3, 4), "40e00000"},
		{coder(1, 1, 3), repeatedNumbers(0, 6), "00000000,00000000"}, {coder(1, 1, 3), repeatedNumbers(num(minusZero), 6), "00000000,00000000"}, {coder(2, 7, 5), chances(0.3, -1.1, 0.7, 0.2, -0.4, 1.9, 0.6, -0.8, 0.5, 0.1, 0.2, -0.3), "bf8e120a,3f1623ac,3f818bfa,3e0df190"}, {coder(2, 7, 5), signs("110000010111"), "40286c5b,c01a5fe9,403b2e36,4052bb47"}, {coder(1, 3, 3), chances(0.1, 0.2, 0.3, 0.4, 0.5, 0.6), "bd23afa0,3f7fefda"}, {coder(3, 15, 13), repeatedNumbers(100, 14), "43960000,42c80000,c395a747,43960000"}, {coder(4, 21, 27, 31, 16), signs("11011.100111010110.100100110"), "3fd5fdb6,bfd5fdb6,00000000"}, {coder(1, 3, 2), chances(300, -250, 170, 90, -600, 1000), "435c0000,43660000"}, {coder(1, 1), chances(1e38, -1e38, 0), "7e967699,fe967699"}, {coder(1, 1), chances(high, -1, 0), "7f7fffff,00000000"}, {coder(2, 6), chances(1, -2, 3, -4, 5, -6), "c091f5b3,40a9271a,40c93c62,c0f2402c"},
		// Some numbers are not finite, those that are returned, or only others.
		{coder(1, 1, 1), chances(high, high, 0, 0), "no"}, {coder(1, 1), chances(high, high, 0), "7f7fffff,7f7fffff"}, {coder(1, 1), chances(high, high, high, 0), "no"}, {coder(1, 1, 1), chances(high, -high, 0, 0), "00000000"}, {coder(1, 1, 1), chances(0, 0, high, high), "no"}, {coder(1, 1, 1), chances(high, high), ""}, {coder(1, 1, 2), chances(high, high, high, high, 0, 0), "no"}, {coder(1, 3), chances(-high, -high, -high, -high, -high), "no"}, {coder(1, 1, 3), chances(-high, -high, 1, 1, 0, 0), "no"}, {coder(1, 1), chances(high, 0), "7f7fffff"}, {coder(2, 1, 2, 3), chances(0, 0, 1, -1e38, -1e38, 2.4e38, 1, 0, 0, 0, 0, 0), "00000000,00000000"}, {coder(2, 1, 2, 3), chances(0, 0, 1, 1e38, 1e38, 2.4e38, 1, 0, 0, 0, 0, 0), "00000000,00000000"},
		{coder(1, 1), nil, "no"}, {coder(1, 1, 3), chances(1), "no"}, {coder(1, 1, 3), chances(1, 1, 1), "no"}, {coder(4, 3), chances(1, 2, 3), "no"}, {coder(2, 1, 1, 1), repeatedNumbers(1, 7), "no"},
	}
	for _, c := range cases {
		wantText(t, fmt.Sprint("AllWays ", c.c, hex(c.soft...)), toldRow(impl.AllWays(c.c, c.soft)), c.want)
	}
}

// likelyByAll tells how much more likely each bit is true by all ways of n bits, in 64-bit numbers.
func likelyByAll(c impl.Coder, n int, soft []float32) []float64 {
	yes, no := make([]float64, n), make([]float64, n)
	for _, way := range waysOf(n) {
		sent, _ := impl.SendBits(c, way)
		weight := math.Exp(gainOf(sent, soft) / 2)
		for i, bit := range way {
			if bit {
				yes[i] += weight
			} else {
				no[i] += weight
			}
		}
	}
	for i := range yes {
		yes[i] = math.Log(yes[i] / no[i])
	}
	return yes
}

func TestPromise8AllWaysAreTold(t *testing.T) {
	d := &drawn{88}
	for i := range 800 {
		c, n := d.coder(), i%8
		soft := d.few(len(c.Masks) * (n + int(c.Memory)))
		got, ok := impl.AllWays(c, soft)
		wantBool(t, fmt.Sprint("AllWays succeeds ", c, soft), ok, true)
		for k, want := range likelyByAll(c, n, soft) {
			if math.Abs(float64(got[k])-want) > 1e-4 {
				t.Errorf("AllWays %v %v, bit %d: got %v, want %v", c, soft, k, got[k], want)
			}
		}
	}
}

func TestPromise8WaysShared(t *testing.T) {
	c := coder(1, 1, 3)
	cases := []struct {
		many [][]float32
		want string
	}{
		{nil, ""}, {[][]float32{}, ""}, {[][]float32{signs("1101")}, "1"}, {[][]float32{signs("1101"), signs("0000"), signs("00"), signs("111001")}, "1,0,,11"}, {[][]float32{signs("00")}, ""}, {slices.Repeat([][]float32{signs("1101")}, 8), "1,1,1,1,1,1,1,1"}, {slices.Repeat([][]float32{signs("1101")}, 9), "no"}, {slices.Repeat([][]float32{signs("1101")}, 10000), "no"}, {[][]float32{nil}, "no"}, {[][]float32{signs("1101"), nil}, "no"}, {[][]float32{signs("1101"), signs("110")}, "no"}, {[][]float32{signs("1"), signs("1101")}, "no"}, {[][]float32{signs("1101"), repeatedNumbers(most(), 4), signs("00")}, "no"}, {[][]float32{signs("1101"), repeatedNumbers(num(noNumber), 4), signs("00")}, "no"}, {append(slices.Repeat([][]float32{signs("00")}, 7), repeatedNumbers(num(plusInf), 2)), "no"},
	}
	for _, w := range cases {
		for workers := int64(1); workers <= 8; workers++ {
			wantText(t, fmt.Sprint("WaysShared ", w.many, workers), toldMany(impl.WaysShared(c, w.many, workers)), w.want)
		}
		for _, workers := range integers(0, -1, 9, 10, 1<<32+1, math.MaxInt64, math.MinInt64) {
			wantText(t, fmt.Sprint("WaysShared ", w.many, workers), toldMany(impl.WaysShared(c, w.many, workers)), "no")
		}
	}
	d := &drawn{89}
	for i := range 200 {
		c := d.coder()
		var many [][]float32
		var wants []string
		for range i % 9 {
			soft := d.soft(len(c.Masks) * (int(c.Memory) + d.below(30)))
			if bits, _, ok := impl.BestWay(c, soft); ok {
				many, wants = append(many, soft), append(wants, digitsOf(bits))
			}
		}
		wantText(t, fmt.Sprint("WaysShared ", c, many), toldMany(impl.WaysShared(c, many, int64(1+i%8))), strings.Join(wants, ","))
	}
}
