package tests

import (
	"fmt"
	"math"
	"slices"
	"testing"

	"loop.example/g01364/impl"
)

func states(power int64, shares ...int64) impl.States {
	return impl.States{Power: power, Shares: shares}
}

func toldStates(t impl.States, ok bool) string {
	return outcome(fmt.Sprint(t.Power, t.Shares), t.Power == 0 && len(t.Shares) == 0, ok)
}

func toldSent(bits []bool, state int64, ok bool) string {
	return outcome(fmt.Sprint(digitsOf(bits), " ", state), len(bits) == 0 && state == 0, ok)
}

// someStates are valid ones of each Power.
func someStates() []impl.States {
	return []impl.States{
		states(1, 1, 1), states(2, 1, 3), states(2, 1, 1, 1, 1), states(3, 5, 3), states(3, repeated(8, 1)...), states(4, 13, 3), states(4, 1, 15), states(4, sixteen(1)...), states(5, 10, 20, 2), states(6, 32, 16, 16),
		states(7, 64, 64), states(7, 1, 126, 1), states(8, 255, 1), states(8, 1, 255), states(8, 100, 56, 50, 50), states(8, sixteen(16)...), states(8, append(repeated(15, 1), 241)...),
	}
}

// notStates are not valid.
func notStates() []impl.States {
	return []impl.States{
		{}, states(0, 1), states(0), states(1), states(1, 2), states(8, 256), states(1, 1, 1, 1), states(2, 1, 1), states(2, 1, 1, 1), states(3, 5, 4), states(3, 5, 2), states(8, 255, 2), states(8, 128, 127), states(4, sixteen(2)...), states(5, repeated(17, 1)...), states(5, append(repeated(16, 1), 16)...), states(8, repeated(256, 1)...),
		states(3, 8, 0), states(3, 0, 8), states(3, 9, -1), states(3, -1, 9), states(3, 4, 0, 4), states(0, 1, 0), states(0, 2, -1), states(9, 256, 256), states(9, 511, 1), states(-1, 1, 1), states(64, 1, 1), states(63, 1<<62, 1<<62), states(math.MaxInt64, 1, 1), states(math.MinInt64, 1, 1),
		// The sums of these are 2^Power if they overflow.
		states(3, math.MaxInt64, math.MaxInt64, 10), states(3, 1<<62, 1<<62, 1<<62, 1<<62, 8), states(3, math.MinInt64, math.MinInt64, 8),
	}
}

func TestPromise6ValidShares(t *testing.T) {
	for _, s := range someStates() {
		wantBool(t, fmt.Sprint("ValidShares ", s), impl.ValidShares(s), true)
		s.Power++
		wantBool(t, fmt.Sprint("ValidShares ", s), impl.ValidShares(s), false)
		s.Power -= 2
		wantBool(t, fmt.Sprint("ValidShares ", s), impl.ValidShares(s), false)
	}
	for _, s := range notStates() {
		wantBool(t, fmt.Sprint("ValidShares ", s), impl.ValidShares(s), false)
	}
}

func TestPromise6SharesOf(t *testing.T) {
	cases := []struct {
		c     impl.Counts
		power int64
		want  string
	}{
		{counts(1, 1), 1, "1 [1 1]"}, {counts(1, 1), 8, "8 [128 128]"}, {counts(1, 2, 1), 2, "2 [1 2 1]"}, {counts(7, 7, 2), 4, "4 [7 7 2]"}, {counts(sixteen(1)...), 4, fmt.Sprint(4, sixteen(1))}, {counts(sixteen(1)...), 8, fmt.Sprint(8, sixteen(16))},
		// The Shares are too few: those of the greatest counts, the first ones of equal ones, become more.
		{counts(3, 2), 3, "3 [5 3]"}, {counts(2, 3), 3, "3 [3 5]"}, {counts(1, 1, 1), 2, "2 [2 1 1]"}, {counts(1, 1, 1), 8, "8 [86 85 85]"}, {counts(1, 1, 1, 1, 1), 3, "3 [2 2 2 1 1]"}, {counts(3, 1, 3, 1, 3), 3, "3 [2 1 2 1 2]"}, {counts(5, 1, 10, 3), 4, "4 [4 1 9 2]"}, {counts(5, 1, 10, 3), 8, "8 [68 13 135 40]"},
		{counts(repeated(7, 9)...), 8, "8 [37 37 37 37 36 36 36]"}, {counts(9, 8, 9, 8, 9, 8, 9), 5, "5 [5 4 5 4 5 4 5]"}, {counts(16383, 1), 1, "1 [1 1]"},
		// They are too many: the first one of the greatest Shares becomes less, again and again.
		{counts(2, 1, 2), 2, "2 [2 1 1]"}, {counts(16383, 1), 8, "8 [255 1]"}, {counts(1, 16383), 8, "8 [1 255]"}, {counts(1, 16383), 2, "2 [1 3]"}, {counts(5, 1, 10, 3), 2, "2 [1 1 1 1]"}, {counts(1, 100, 1, 100, 1), 3, "3 [1 2 1 3 1]"}, {counts(100, 1, 1, 100), 3, "3 [3 1 1 3]"}, {counts(99, 1, 1, 100), 3, "3 [3 1 1 3]"},
		{counts(1, 1, 1, 200, 200, 200), 3, "3 [1 1 1 1 2 2]"}, {counts(16382, 1, 1), 2, "2 [2 1 1]"}, {counts(1, 16382, 1), 3, "3 [1 6 1]"}, {counts(1, 2, 3, 4, 5, 6, 7, 8, 9, 10, 11, 12, 13, 14, 15, 16), 4, fmt.Sprint(4, sixteen(1))},
		{lastOften(), 4, fmt.Sprint(4, sixteen(1))}, {lastOften(), 8, "8 [1 1 1 1 1 1 1 1 1 1 1 1 1 1 1 241]"}, {firstOften(), 6, "6 [49 1 1 1 1 1 1 1 1 1 1 1 1 1 1 1]"}, {counts(1, 2, 3, 4, 5, 6, 7, 8, 9, 10, 11, 12, 13, 14, 15, 16), 8, "8 [1 3 5 7 9 11 13 15 17 19 21 23 25 27 29 31]"},
		// 2^power is less than the number of letters.
		{counts(1, 1, 1), 1, "no"}, {counts(1, 1, 1, 1, 1), 2, "no"}, {counts(repeated(9, 1)...), 3, "no"}, {counts(sixteen(1)...), 3, "no"}, {lastOften(), 1, "no"},
	}
	for _, c := range cases {
		wantText(t, fmt.Sprint("SharesOf ", c.c, c.power), toldStates(impl.SharesOf(c.c, c.power)), c.want)
		for _, power := range integers(0, -1, 9, 10, 63, 64, math.MaxInt64, math.MinInt64) {
			wantText(t, fmt.Sprint("SharesOf ", c.c, power), toldStates(impl.SharesOf(c.c, power)), "no")
		}
	}
	for _, c := range strangeCounts() {
		wantText(t, fmt.Sprint("SharesOf ", c.Letters), toldStates(impl.SharesOf(c, 8)), "no")
	}
}

func TestPromise6SharesAreValid(t *testing.T) {
	d := &drawn{54}
	for range 3000 {
		c, power := d.counts(2+d.below(15)), int64(1+d.below(8))
		s, ok := impl.SharesOf(c, power)
		wantBool(t, fmt.Sprint("SharesOf ", c, power), ok, c.Letters <= 1<<power)
		if ok {
			wantBool(t, fmt.Sprint("SharesOf ", c, power, s), impl.ValidShares(s) && s.Power == power && int64(len(s.Shares)) == c.Letters, true)
		}
	}
}

// lettersOf returns a letter for each hexadecimal digit.
func lettersOf(digits string) []int64 {
	var letters []int64
	for _, digit := range digits {
		if digit >= 'a' {
			letters = append(letters, int64(digit-'a')+10)
			continue
		}
		letters = append(letters, int64(digit-'0'))
	}
	return letters
}

func TestPromise6SpreadTable(t *testing.T) {
	cases := []struct {
		s    impl.States
		want string
	}{
		// The step is 1.
		{states(1, 1, 1), "01"}, {states(2, 1, 3), "0111"}, {states(2, 1, 1, 1, 1), "0123"}, {states(3, 5, 3), "00000111"}, {states(3, repeated(8, 1)...), "01234567"},
		{states(4, 13, 3), "0001001001000000"}, {states(4, 1, 15), "0" + ones(15)}, {states(4, sixteen(1)...), "05af49e38d27c16b"}, {states(5, 10, 20, 2), "00111011120111001120111001110111"}, {states(6, 32, 16, 16), "0000000000011111222222000000000011111122222000000000001111122222"},
		{states(7, 64, 64), "01001101100110110011011001001100100110010011011001101100110110011011001001100100110010011011001101100110110010011001001100100110"},
		{states(8, 255, 1), zeros(93) + "1" + zeros(162)}, {states(8, 100, 56, 50, 50), "0000000000111112222333330000000001111122223333300000000011111222223333000000000111112222233333000000000111112222333330000000001111122222333300000000011111222223333000000000111111222233333000000000111112222333330000000001111122222333300000000011111222223333"},
	}
	for _, c := range cases {
		wantText(t, fmt.Sprint("SpreadTable ", c.s), toldList(impl.SpreadTable(c.s)), fmt.Sprint(lettersOf(c.want)))
	}
	for _, s := range someStates() {
		table, ok := impl.SpreadTable(s)
		wantBool(t, fmt.Sprint("SpreadTable ", s), ok && len(table) == 1<<s.Power, true)
		for letter, share := range s.Shares {
			count := 0
			for _, at := range table {
				if at == int64(letter) {
					count++
				}
			}
			wantInt(t, fmt.Sprint("how often ", letter, " is in the table of ", s), int64(count), share)
		}
	}
	for _, s := range notStates() {
		wantText(t, fmt.Sprint("SpreadTable ", s), toldList(impl.SpreadTable(s)), "no")
	}
}

// sending has states, a text, its bits, and the state behind it.
type sending struct {
	s     impl.States
	text  []int64
	bits  string
	state int64
}

func someSendings() []sending {
	all := []sending{
		{states(1, 1, 1), integers(0), "0", 2}, {states(1, 1, 1), integers(1), "0", 3}, {states(1, 1, 1), integers(0, 1, 1, 0), "0011", 2}, {states(2, 1, 3), repeated(6, 1), "011", 5}, {states(2, 1, 3), repeated(3, 1, 0), "000101", 6},
		{states(3, 5, 3), integers(0), "", 11}, {states(3, 5, 3), integers(1), "0", 14}, {states(3, 5, 3), integers(0, 1, 0), "11", 10}, {states(3, 5, 3), repeated(4, 1), "0011010", 13}, {states(4, 13, 3), integers(0, 0, 1, 0), "001", 18},
		{states(4, 1, 15), integers(0, 0), "00000000", 16}, {states(4, 1, 15), repeated(10, 1), "0", 21}, {states(5, 10, 20, 2), integers(2, 1, 0, 1, 1, 2), "000011000110", 41}, {states(6, 32, 16, 16), integers(0, 0, 1, 2, 0), "0000011", 67},
		{states(8, 255, 1), repeated(3, 1), "000000001011101010111010", 349}, {states(8, 255, 1), repeated(64, 0), "", 320}, {states(8, 1, 255), repeated(64, 0), zeros(512), 256}, {states(4, sixteen(1)...), integers(15, 0, 7), "000011010000", 19},
		{states(4, sixteen(1)...), integers(0, 1, 2, 3, 4, 5, 6, 7, 8, 9, 10, 11, 12, 13, 14, 15), "0000110001101001001111110100101000011101011110000010111001011011", 16},
		{states(8, 100, 56, 50, 50), repeated(16, 3, 1, 0, 2), "0011011101010110110100111111110110110100000010011111001011011010000001001111100101101101000000100111110010110110100000010011111001011", 278},
	}
	for _, s := range someStates() {
		all = append(all, sending{s, nil, "", 1 << s.Power})
	}
	return all
}

func TestPromise6StateBits(t *testing.T) {
	for _, c := range someSendings() {
		wantText(t, fmt.Sprint("StateBits ", c.s, c.text), toldSent(impl.StateBits(c.s, c.text)), fmt.Sprint(c.bits, " ", c.state))
	}
	for _, s := range someStates() {
		for _, bad := range badTexts(int64(len(s.Shares))) {
			wantText(t, fmt.Sprint("StateBits ", s, bad), toldSent(impl.StateBits(s, bad)), "no")
		}
	}
	for _, s := range notStates() {
		wantText(t, fmt.Sprint("StateBits ", s), toldSent(impl.StateBits(s, nil)), "no")
		wantText(t, fmt.Sprint("StateBits ", s), toldSent(impl.StateBits(s, integers(0))), "no")
	}
}

func TestPromise6StateText(t *testing.T) {
	told := func(c sending, bits string, state, count int64) string {
		return toldList(impl.StateText(c.s, bools(bits), state, count))
	}
	for _, c := range someSendings() {
		count, first := int64(len(c.text)), int64(1)<<c.s.Power
		what := fmt.Sprint("StateText ", c.s, c.bits, c.state)
		wantText(t, what, told(c, c.bits, c.state, count), fmt.Sprint(c.text))
		// Bits end early, or are left at last.
		if c.bits != "" {
			wantText(t, what+" without the first bit", told(c, c.bits[1:], c.state, count), "no")
			wantText(t, what+" without bits", told(c, "", c.state, count), "no")
		}
		for _, further := range []string{"0", "1", zeros(20), zeros(1024 - len(c.bits))} {
			wantText(t, what+" and further bits", told(c, further+c.bits, c.state, count), "no")
		}
		for _, state := range integers(0, -1, 1, first-1, 2*first, 2*first+1, c.state+first, c.state-first, math.MaxInt64, math.MinInt64) {
			wantText(t, fmt.Sprint(what, " from ", state), told(c, c.bits, state, count), "no")
			wantText(t, fmt.Sprint(what, " of no letters from ", state), told(c, "", state, 0), "no")
		}
		for _, bad := range badCount() {
			wantText(t, fmt.Sprint(what, bad), told(c, c.bits, c.state, bad), "no")
		}
	}
	for _, long := range []int{1025, 100000} {
		wantText(t, "StateText of too many bits", told(sending{s: states(8, 1, 255)}, zeros(long), 256, 64), "no")
	}
	// No letters leave the state where it is.
	wantText(t, "StateText of no letters from another state", told(sending{s: states(3, 5, 3)}, "", 9, 0), "no")
	wantText(t, "StateText of fewer letters", told(sending{s: states(3, 5, 3)}, "11", 10, 2), "no")
	wantText(t, "StateText of the greatest state", told(sending{s: states(3, 5, 3)}, "1", 15, 1), "no")
	for _, s := range notStates() {
		wantText(t, fmt.Sprint("StateText ", s), toldList(impl.StateText(s, nil, 2, 0)), "no")
		wantText(t, fmt.Sprint("StateText ", s), toldList(impl.StateText(s, nil, 8, 0)), "no")
		wantText(t, fmt.Sprint("StateText ", s), toldList(impl.StateText(s, bools("11"), 10, 3)), "no")
	}
}

// wantStatesBack tells that a text comes back from its bits and its state.
func wantStatesBack(t *testing.T, s impl.States, text []int64) {
	t.Helper()
	bits, state, ok := impl.StateBits(s, text)
	wantBool(t, fmt.Sprint("StateBits ", s, text), ok && state >= 1<<s.Power && state < 2<<s.Power, true)
	wantText(t, fmt.Sprint("StateText ", s, digitsOf(bits), state), toldList(impl.StateText(s, bits, state, int64(len(text)))), fmt.Sprint(text))
}

func TestPromise6AllTextsComeBackFromStates(t *testing.T) {
	for _, s := range someStates() {
		most := 3
		if len(s.Shares) < 5 {
			most = []int{9, 6, 5}[len(s.Shares)-2]
		}
		for _, text := range allTexts(int64(len(s.Shares)), most) {
			wantStatesBack(t, s, text)
		}
	}
}

func TestPromise6LongTextsComeBackFromStates(t *testing.T) {
	d := &drawn{55}
	for range 4000 {
		letters := 2 + d.below(15)
		text := d.text(letters, d.below(65))
		c := d.counts(letters)
		if d.below(2) == 0 {
			c, _ = impl.CountsOf(text, int64(letters))
		}
		s, ok := impl.SharesOf(c, int64(4+d.below(5)))
		wantBool(t, fmt.Sprint("SharesOf ", c), ok, true)
		wantStatesBack(t, s, text)
	}
}

// What is read makes the bits and the state again, whatever they are, and no two texts have the same ones.
func TestPromise6StatesAreMadeAgain(t *testing.T) {
	d := &drawn{56}
	successes := 0
	for range 60000 {
		all := someStates()[:7]
		s := all[d.below(len(all))]
		bits, state := bools(d.digits(d.below(7))), int64(1<<s.Power+d.below(1<<s.Power))
		text, ok := impl.StateText(s, bits, state, int64(d.below(6)))
		if !ok {
			continue
		}
		successes++
		wantText(t, fmt.Sprint("StateBits ", s, text), toldSent(impl.StateBits(s, text)), fmt.Sprint(digitsOf(bits), " ", state))
	}
	wantBool(t, "many bits are read", successes > 1000, true)
}

// Letters that are there more often have fewer bits.
func TestPromise6StatesOfRareLetters(t *testing.T) {
	for _, s := range []impl.States{states(8, 255, 1), states(8, 1, 255)} {
		often := int64(slices.Index(s.Shares, 255))
		few, _, _ := impl.StateBits(s, repeated(64, often))
		many, _, _ := impl.StateBits(s, repeated(64, 1-often))
		wantBool(t, fmt.Sprint(len(few), len(many)), len(few) <= 1 && len(many) == 512, true)
	}
}
