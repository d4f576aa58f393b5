package tests

import (
	"fmt"
	"math"
	"slices"
	"testing"

	"loop.example/g01364/impl"
)

// badPower are no powers of polar splits.
func badPower() []int64 {
	return integers(-1, 6, 7, 62, 63, 64, 1<<32, 1<<32+1, math.MaxInt64, math.MinInt64)
}

// notPlaces are no sets of places of 2^power.
func notPlaces(power int64) [][]int64 {
	n := int64(1) << power
	return [][]int64{
		{n}, {-1}, {0, 0}, {0, n}, {-1, 0}, {n - 1, n}, {n - 1, 0, n}, {n, 0}, {n - 1, n - 1}, {math.MaxInt64}, {math.MinInt64}, {math.MinInt64, 0}, {0, 1 << 32}, append(upTo(n), n), append(upTo(n), n-1), append(upTo(n), 0), make([]int64, 100000),
	}
}

// set returns some of the numbers below n, without one out of each share.
func (d *drawn) set(n, share int) []int64 {
	var list []int64
	for i := range n {
		if d.below(share) != 0 {
			list = append(list, int64(i))
		}
	}
	return list
}

func TestPromise8PolarTurn(t *testing.T) {
	cases := []struct{ bits, want string }{
		{"0", "0"}, {"1", "1"}, {"01", "11"}, {"10", "10"}, {"11", "01"}, {"00", "00"}, {"0001", "1111"}, {"0010", "1010"}, {"0100", "1100"}, {"1000", "1000"}, {"1101", "1011"}, {"00000001", "11111111"}, {"10000000", "10000000"}, {"00010000", "11110000"}, {"01101001", "00010111"}, {zeros(15) + "1", ones(16)}, {zeros(31) + "1", ones(32)}, {"1" + zeros(31), "1" + zeros(31)}, {zeros(32), zeros(32)}, {ones(32), zeros(31) + "1"},
		{"", "no"}, {"000", "no"}, {"101", "no"}, {"11111", "no"}, {"111111", "no"}, {zeros(12), "no"}, {zeros(31), "no"}, {zeros(33), "no"}, {zeros(48), "no"}, {zeros(64), "no"}, {ones(128), "no"}, {zeros(1 << 16), "no"}, {zeros(100000), "no"},
	}
	for _, c := range cases {
		wantText(t, "PolarTurn "+c.bits, toldDigits(impl.PolarTurn(bools(c.bits))), c.want)
	}
	// A bit goes to all places whose digits are among those of its own place.
	d := &drawn{94}
	for i := range 600 {
		bits := d.bits(1 << (i % 6))
		turned := make([]bool, len(bits))
		for from, bit := range bits {
			for to := range turned {
				turned[to] = turned[to] != (bit && to&from == to)
			}
		}
		wantText(t, "PolarTurn "+digitsOf(bits), toldDigits(impl.PolarTurn(bits)), digitsOf(turned))
		wantText(t, "PolarTurn twice "+digitsOf(bits), toldDigits(impl.PolarTurn(turned)), digitsOf(bits))
	}
}

// badLost are no chances that something is lost.
func badLost() []float32 {
	return []float32{-1, num(0x80000001), num(0x3f800001), 2, most(), -most(), num(plusInf), num(minusInf), num(noNumber), num(0xffffffff)}
}

func TestPromise8PolarLosses(t *testing.T) {
	cases := []struct {
		power int64
		lost  float32
		want  string
	}{
		{0, 0.5, "3f000000"}, {0, 0, "00000000"}, {0, num(minusZero), "80000000"}, {0, 1, "3f800000"}, {0, 0.3, "3e99999a"}, {0, num(least), "00000001"}, {1, 0.5, "3f400000,3e800000"}, {1, 0, "00000000,00000000"}, {1, num(minusZero), "80000000,00000000"}, {1, 1, "3f800000,3f800000"}, {1, num(least), "00000002,00000000"}, {2, 0.5, "3f700000,3f100000,3ee00000,3d800000"}, {1, 0.3, "3f028f5c,3db851ec"}, {2, 0.3, "3f4288ce,3e852bd3,3e30068e,3c04b5dd"}, {3, 0.1, "3f11cce6,3df23614,3d913256,3aaad079,3d216615,39cf9f92,3951b46a,322bcc7a"}, {3, 0.5, "3f7f0000,3f610000,3f4f0000,3ea20000,3f2f0000,3e440000,3df80000,3b800000"}, {4, 0.7, "3f800000,3f7ff766,3f7feef1,3f77ce49,3f7fc6c6,3f71181a,3f66b81a,3ef0c4ed,3f7ed40e,3f5e88aa,3f4b923f,3e9972c2,3f2aa344,3e36d5da,3de551f2,3b59cb96"}, {5, 0.5, "3f800000,3f7ffe00,3f7ffc04,3f7c05fc,3f7ff1e8,3f788c18,3f72bf64,3f18c29c,3f7fa809,3f6d95f7,3f61524d,3edadf66,3f4818ec,3e914a27,3e42c4a3,3c2435d0,3f7d6f29,3f4f4ed7,3f375aed,3e5f9c4d,3f12904d,3df56d96,3d93504a,3aafed82,3ece7ac9,3d5409b8,3cee7d10,39617810,3c7e8100,387f0040,37ffff80,2f800000"}, {5, num(0x3f7fffff), "3f800000,3f800000,3f800000,3f800000,3f800000,3f800000,3f800000,3f800000,3f800000,3f800000,3f800000,3f800000,3f800000,3f800000,3f800000,3f800000,3f800000,3f800000,3f800000,3f800000,3f800000,3f800000,3f800000,3f800000,3f800000,3f800000,3f800000,3f800000,3f800000,3f800000,3f800000,3f7fffe0"}, {5, num(minusZero), "80000000,00000000,00000000,00000000,00000000,00000000,00000000,00000000,00000000,00000000,00000000,00000000,00000000,00000000,00000000,00000000,00000000,00000000,00000000,00000000,00000000,00000000,00000000,00000000,00000000,00000000,00000000,00000000,00000000,00000000,00000000,00000000"}, {5, 1, hex(repeatedNumbers(1, 32)...)}, {5, 0, hex(repeatedNumbers(0, 32)...)},
	}
	for _, c := range cases {
		wantText(t, fmt.Sprint("PolarLosses ", c.power, c.lost), toldRow(impl.PolarLosses(c.power, c.lost)), c.want)
	}
	for power := range int64(6) {
		for _, lost := range badLost() {
			wantText(t, fmt.Sprint("PolarLosses ", power, lost), toldRow(impl.PolarLosses(power, lost)), "no")
			wantText(t, fmt.Sprint("PolarBest ", power, lost), toldList(impl.PolarBest(power, lost, 1)), "no")
			wantText(t, fmt.Sprint("PolarBest ", power, lost), toldList(impl.PolarBest(power, lost, 0)), "no")
		}
	}
	for _, power := range badPower() {
		wantText(t, fmt.Sprint("PolarLosses ", power), toldRow(impl.PolarLosses(power, 0.5)), "no")
		wantText(t, fmt.Sprint("PolarBest ", power), toldList(impl.PolarBest(power, 0.5, 0)), "no")
		wantText(t, fmt.Sprint("PolarBest ", power), toldList(impl.PolarBest(power, 0.5, 1)), "no")
	}
	for i := range 300 {
		power, lost := int64(i%6), float32(i)/300
		losses, ok := impl.PolarLosses(power, lost)
		wantBool(t, "PolarLosses succeeds", ok && len(losses) == 1<<power, true)
		for place, got := range losses {
			// The greatest digit of a place tells the first split.
			want := float64(lost)
			for digit := power - 1; digit >= 0; digit-- {
				if place>>digit&1 == 1 {
					want *= want
				} else {
					want = 2*want - want*want
				}
			}
			if !near(got, float32(want)) {
				t.Errorf("PolarLosses %d %v, place %d: got %v, want %v", power, lost, place, got, want)
			}
		}
	}
}

func TestPromise8PolarBest(t *testing.T) {
	cases := []struct {
		power int64
		lost  float32
		count int64
		want  string
	}{
		{2, 0.5, 2, "[2 3]"}, {2, 0.5, 1, "[3]"}, {2, 0.5, 3, "[1 2 3]"}, {2, 0.5, 4, "[0 1 2 3]"}, {2, 0.5, 0, "[]"}, {0, 0.5, 0, "[]"}, {0, 0.5, 1, "[0]"}, {1, 0.5, 1, "[1]"}, {3, 0.5, 4, "[3 5 6 7]"}, {3, 0.5, 3, "[5 6 7]"}, {3, 0.5, 2, "[6 7]"}, {4, 0.5, 8, "[7 9 10 11 12 13 14 15]"}, {5, 0.5, 16, "[11 13 14 15 19 21 22 23 24 25 26 27 28 29 30 31]"}, {5, 0.1, 9, "[15 23 25 26 27 28 29 30 31]"}, {5, 0.9, 9, "[15 23 25 26 27 28 29 30 31]"}, {5, 0.5, 31, "[1 2 3 4 5 6 7 8 9 10 11 12 13 14 15 16 17 18 19 20 21 22 23 24 25 26 27 28 29 30 31]"}, {5, 0.5, 32, fmt.Sprint(upTo(32))}, {4, 0.3, 5, "[7 11 13 14 15]"},
		// The first ones of equal ones are best.
		{3, 0, 3, "[0 1 2]"}, {3, 1, 5, "[0 1 2 3 4]"}, {5, num(minusZero), 3, "[0 1 2]"}, {5, 1, 1, "[0]"}, {2, num(0x33800000), 3, "[1 2 3]"}, {5, 1e-30, 20, "[1 2 3 4 5 6 7 8 9 10 11 12 13 14 15 16 17 18 19 20]"}, {5, 0.999, 4, "[27 29 30 31]"}, {4, 0.99, 6, "[7 11 12 13 14 15]"}, {5, num(0x3f7fffff), 10, "[0 1 2 3 4 5 6 7 8 31]"},
		{2, 0.5, 5, "no"}, {2, 0.5, -1, "no"}, {0, 0.5, 2, "no"}, {5, 0.5, 33, "no"}, {3, 0.5, 1 << 32, "no"}, {3, 0.5, math.MaxInt64, "no"}, {3, 0.5, math.MinInt64, "no"},
	}
	for _, c := range cases {
		wantText(t, fmt.Sprint("PolarBest ", c.power, c.lost, c.count), toldList(impl.PolarBest(c.power, c.lost, c.count)), c.want)
	}
	for i := range 400 {
		power, lost := int64(i%6), float32(i/6)/66
		losses, _ := impl.PolarLosses(power, lost)
		best := upTo(1 << power)
		slices.SortFunc(best, func(a, b int64) int {
			if losses[a] != losses[b] {
				return int(math.Copysign(1, float64(losses[a])-float64(losses[b])))
			}
			return int(a - b)
		})
		for count := range int64(len(best) + 1) {
			want := slices.Sorted(slices.Values(best[:count]))
			wantText(t, fmt.Sprint("PolarBest ", power, lost, count), toldList(impl.PolarBest(power, lost, count)), fmt.Sprint(want))
		}
		wantText(t, fmt.Sprint("PolarBest of too many ", power, lost), toldList(impl.PolarBest(power, lost, 1<<power+1)), "no")
	}
}

func TestPromise8PolarSend(t *testing.T) {
	cases := []struct {
		power  int64
		places []int64
		bits   string
		want   string
	}{
		{1, integers(1), "1", "11"}, {1, integers(0), "1", "10"}, {1, nil, "", "00"}, {0, nil, "", "0"}, {0, integers(0), "1", "1"}, {0, integers(0), "0", "0"}, {1, integers(0, 1), "01", "11"}, {2, integers(1, 3), "11", "0011"}, {2, integers(1, 3), "10", "1100"}, {3, integers(3, 5, 6, 7), "1011", "10100101"}, {5, upTo(32), zeros(31) + "1", ones(32)}, {5, integers(31), "1", ones(32)}, {5, nil, "", zeros(32)}, {5, integers(0, 16), "11", "0" + zeros(15) + "1" + zeros(15)},
		{1, integers(2), "1", "no"}, {1, integers(1), "", "no"}, {1, integers(1), "10", "no"}, {1, nil, "1", "no"}, {2, integers(0, 1), "1", "no"}, {2, integers(0, 1), "111", "no"}, {5, upTo(32), zeros(31), "no"}, {5, upTo(32), zeros(33), "no"}, {5, upTo(31), zeros(100000), "no"},
	}
	for _, c := range cases {
		wantText(t, fmt.Sprint("PolarSend ", c.power, c.places, c.bits), toldDigits(impl.PolarSend(c.power, c.places, bools(c.bits))), c.want)
	}
	for _, power := range badPower() {
		wantText(t, fmt.Sprint("PolarSend ", power), toldDigits(impl.PolarSend(power, nil, nil)), "no")
		wantText(t, fmt.Sprint("PolarSend ", power), toldDigits(impl.PolarSend(power, integers(0), bools("1"))), "no")
	}
	for power := range int64(6) {
		for _, places := range notPlaces(power) {
			wantText(t, fmt.Sprint("PolarSend ", power, places), toldDigits(impl.PolarSend(power, places, make([]bool, len(places)))), "no")
			wantText(t, fmt.Sprint("PolarRead ", power, places), toldDigits(impl.PolarRead(power, places, repeatedNumbers(1, 1<<power))), "no")
		}
	}
	d := &drawn{95}
	for i := range 600 {
		places := d.set(1<<(i%6), 1+d.below(4))
		bits := d.bits(len(places))
		all := make([]bool, 1<<(i%6))
		for k, place := range places {
			all[place] = bits[k]
		}
		wantText(t, fmt.Sprint("PolarSend ", i%6, places, digitsOf(bits)), toldDigits(impl.PolarSend(int64(i%6), places, bits)), toldDigits(impl.PolarTurn(all)))
	}
}

func TestPromise8PolarRead(t *testing.T) {
	high := most()
	cases := []struct {
		power  int64
		places []int64
		soft   []float32
		want   string
	}{
		{1, integers(1), chances(1, 3), "1"}, {1, integers(1), chances(-4, 3), "0"}, {1, integers(1), chances(-3, 3), "0"}, {1, integers(0, 1), chances(-4, 3), "11"}, {1, integers(0, 1), chances(4, 3), "01"}, {1, integers(0, 1), chances(-4, -3), "00"}, {1, integers(0, 1), chances(4, -3), "10"}, {1, integers(0), chances(4, -3), "1"}, {1, nil, chances(4, -3), ""}, {0, integers(0), chances(1), "1"}, {0, integers(0), chances(-1), "0"}, {0, nil, chances(1), ""}, {0, integers(0), chances(num(least)), "1"},
		// Numbers of 0 are not greater than 0.
		{0, integers(0), chances(0), "0"}, {0, integers(0), chances(num(minusZero)), "0"}, {1, integers(0, 1), chances(0, 0), "00"}, {1, integers(0, 1), chances(0, 1), "01"}, {1, integers(0, 1), chances(1, 0), "01"}, {1, integers(0, 1), chances(num(minusZero), 1), "01"}, {1, integers(0, 1), chances(1, num(minusZero)), "01"}, {1, integers(0, 1), chances(-1, 0), "00"}, {1, integers(0, 1), chances(0, -1), "00"}, {2, upTo(4), chances(0, 1, 0, 1), "0001"}, {2, upTo(4), chances(1, 0, 0, 2), "0001"}, {2, integers(1, 2, 3), chances(0, -1, 1, 0), "010"},
		{2, upTo(4), chances(1, -2, 3, 4), "1101"}, {2, integers(3), chances(1, -2, 3, 4), "1"}, {2, integers(1, 3), chances(1, -2, 3, 4), "11"}, {2, integers(2, 3), chances(-1, -2, 3, 4), "01"}, {2, integers(0, 2), chances(-1, 2, 3, -4), "01"}, {3, integers(3, 5, 6, 7), chances(-1, 1, 1, 1, 1, 1, 1, 1), "0001"}, {3, integers(3, 5, 6, 7), chances(1, -0.5, 1, -1, -0.25, 1, 2, 1), "1011"}, {3, upTo(8), chances(1, -0.5, 1, -1, -0.25, 1, 2, 1), "10111001"}, {3, integers(7), chances(1, -0.5, 1, -1, -0.25, 1, -2, 1), "1"}, {4, integers(7, 11, 13, 14, 15), signs("1101.01101.10110"), "01010"}, {4, upTo(16), signs("0011010111001010"), "0000000101100010"}, {5, integers(15, 23, 27, 29, 30, 31), signs("110100110010111001101001011.1100"), "011100"}, {5, upTo(32), signs("110100110010111001101001011.1100"), "01101000100110101100001111010100"},
		// Sums that are too great become infinities, and still tell bits.
		{1, integers(1), chances(high, high), "1"}, {2, integers(3), chances(high, high, high, high), "1"}, {2, integers(3), chances(-high, -high, -high, -high), "0"}, {2, upTo(4), chances(high, -high, high, high), "1101"}, {5, upTo(32), repeatedNumbers(high, 32), "00000000000000000000000000000001"}, {5, integers(31), repeatedNumbers(-high, 32), "0"},
		{1, integers(1), nil, "no"}, {1, integers(1), chances(1), "no"}, {1, integers(1), chances(1, 1, 1), "no"}, {0, integers(0), nil, "no"}, {0, nil, nil, "no"}, {0, nil, chances(1, 1), "no"}, {5, nil, repeatedNumbers(1, 31), "no"}, {5, nil, repeatedNumbers(1, 33), "no"}, {5, nil, repeatedNumbers(1, 64), "no"}, {5, nil, repeatedNumbers(1, 100000), "no"},
	}
	for _, c := range cases {
		wantText(t, fmt.Sprint("PolarRead ", c.power, c.places, hex(c.soft...)), toldDigits(impl.PolarRead(c.power, c.places, c.soft)), c.want)
	}
	for _, bits := range notFinite() {
		wantText(t, "PolarRead", toldDigits(impl.PolarRead(0, nil, chances(num(bits)))), "no")
		wantText(t, "PolarRead", toldDigits(impl.PolarRead(1, integers(1), chances(1, num(bits)))), "no")
		wantText(t, "PolarRead", toldDigits(impl.PolarRead(2, integers(1, 2), chances(num(bits), 1, 1, 1))), "no")
	}
	for _, power := range badPower() {
		wantText(t, fmt.Sprint("PolarRead ", power), toldDigits(impl.PolarRead(power, nil, nil)), "no")
		wantText(t, fmt.Sprint("PolarRead ", power), toldDigits(impl.PolarRead(power, integers(0), chances(1))), "no")
		wantText(t, fmt.Sprint("PolarRead ", power), toldDigits(impl.PolarRead(power, integers(0), repeatedNumbers(1, 64))), "no")
	}
}

// What is sent at places is read there, also where a few numbers are 0, and places are good.
func TestPromise8PolarReadsWhatWasSent(t *testing.T) {
	d := &drawn{96}
	for i := range 3000 {
		power := int64(i % 6)
		places := d.set(1<<power, 1+d.below(4))
		bits := d.bits(len(places))
		sent, _ := impl.PolarSend(power, places, bits)
		for _, strong := range []float32{1, 0.3, num(least), 1e37} {
			soft, _ := impl.SoftOf(sent, strong)
			wantText(t, fmt.Sprint("PolarRead of what was sent ", power, places, strong), toldDigits(impl.PolarRead(power, places, soft)), digitsOf(bits))
		}
	}
	for lost := range 32 {
		places, _ := impl.PolarBest(5, 0.1, 16)
		bits := d.bits(len(places))
		sent, _ := impl.PolarSend(5, places, bits)
		soft, _ := impl.SoftOf(sent, 1)
		wrong := -0.9 * soft[lost]
		soft[lost] = 0
		wantText(t, fmt.Sprint("PolarRead without number ", lost), toldDigits(impl.PolarRead(5, places, soft)), digitsOf(bits))
		soft[lost] = wrong
		wantText(t, fmt.Sprint("PolarRead with a wrong number ", lost), toldDigits(impl.PolarRead(5, places, soft)), digitsOf(bits))
	}
}
