package tests

import (
	"fmt"
	"math"
	"slices"
	"testing"

	"loop.example/g01364/impl"
)

func toldMendedValues(message []int64, wrong int64, ok bool) string {
	return outcome(fmt.Sprint(message, " but ", wrong), len(message) == 0 && wrong == 0, ok)
}

func TestPromise7ValuesOver(t *testing.T) {
	cases := []struct {
		prime   int64
		message []int64
		n       int64
		want    string
	}{
		{7, integers(1, 2), 4, "[1 3 5 0]"}, {7, integers(1, 2), 1, "[1]"}, {31, integers(30), 3, "[30 30 30]"}, {7, integers(0), 1, "[0]"}, {17, integers(16, 15, 14, 13), 5, "[16 7 2 11 10]"}, {127, integers(3, 0, 1), 8, "[3 4 7 12 19 28 39 52]"},
		// There are prime - 1 values, or 8 of them, and one more.
		{7, integers(1, 2), 6, "[1 3 5 0 2 4]"}, {7, integers(1, 2), 7, "no"}, {7, integers(1, 2), 8, "no"}, {11, integers(1, 2), 8, "[1 3 5 7 9 0 2 4]"}, {11, integers(1, 2), 9, "no"}, {257, integers(1, 2), 9, "no"}, {13, integers(1, 2), 12, "no"}, {7, integers(1), 0, "no"}, {257, integers(1), 0, "no"}, {257, integers(1), -1, "no"}, {257, integers(1), math.MaxInt64, "no"}, {257, integers(1), math.MinInt64, "no"},
		// There are 8 terms, one more, and none.
		{257, repeated(8, 256), 8, "[256 249 2 61 0 4 233 123]"}, {13, integers(0, 0, 0, 0, 0, 0, 0, 1), 8, "[0 1 11 3 4 8 7 6]"}, {257, repeated(9, 0), 8, "no"}, {7, repeated(9, 1), 6, "no"}, {257, make([]int64, 100000), 8, "no"}, {257, nil, 8, "no"}, {7, integers(), 1, "no"},
	}
	for _, c := range cases {
		wantText(t, fmt.Sprint("ValuesOver ", c.prime, c.message, c.n), toldList(impl.ValuesOver(c.prime, c.message, c.n)), c.want)
	}
	for _, prime := range notPrimes() {
		wantText(t, fmt.Sprint("ValuesOver ", prime), toldList(impl.ValuesOver(prime, integers(0), 1)), "no")
	}
	for _, prime := range allPrimes() {
		for _, bad := range notOver(prime) {
			wantText(t, fmt.Sprint("ValuesOver ", prime, bad), toldList(impl.ValuesOver(prime, integers(bad), 1)), "no")
			wantText(t, fmt.Sprint("ValuesOver ", prime, bad), toldList(impl.ValuesOver(prime, integers(0, 1, bad), 1)), "no")
		}
	}
	d := &drawn{72}
	for i := range 2000 {
		prime := allPrimes()[i%7]
		message, n := d.over(prime, 1+d.below(8)), int64(1+d.below(int(min(8, prime-1))))
		var want []int64
		for place := range n {
			want = append(want, valueAt(prime, message, place))
		}
		wantText(t, fmt.Sprint("ValuesOver ", prime, message, n), toldList(impl.ValuesOver(prime, message, n)), fmt.Sprint(want))
	}
}

func TestPromise7MendValues(t *testing.T) {
	cases := []struct {
		prime, k int64
		values   []int64
		want     string
	}{
		{7, 1, integers(5), "[5] but 0"}, {7, 1, integers(0), "[0] but 0"}, {7, 1, integers(4, 4, 2), "[4] but 1"}, {7, 1, integers(2, 4, 4), "[4] but 1"}, {7, 1, integers(1, 1, 2, 2, 1), "[1] but 2"}, {7, 2, integers(1, 3, 5, 0), "[1 2] but 0"}, {7, 2, integers(1, 3), "[1 2] but 0"}, {7, 2, integers(1, 3, 5, 1), "[1 2] but 1"}, {7, 2, integers(1, 3, 5, 0, 2, 0), "[1 2] but 1"}, {7, 2, integers(1, 0, 5, 1, 2, 4), "[1 2] but 2"},
		{7, 3, integers(1, 2, 4), "[1 4 4] but 0"}, {7, 3, integers(1, 2, 5, 3), "[1 0 1] but 0"}, {7, 3, integers(1, 2, 5, 3, 3, 4), "[1 0 1] but 1"}, {11, 3, integers(1, 2, 5, 10, 6, 0, 4, 9), "[1 0 1] but 2"}, {11, 3, integers(1, 0, 5, 10, 0, 4, 4, 0), "[1 0 1] but 3"}, {257, 3, integers(5, 12, 0, 56, 93, 140, 0, 7), "[5 2 5] but 2"}, {257, 2, integers(0, 0, 0, 0, 3, 6, 9, 12), "[248 3] but 3"}, {127, 3, integers(126, 126, 126, 126, 0, 1, 2, 3), "[123 1 0] but 3"}, {11, 2, integers(0, 0, 0, 1, 2, 3, 7, 5), "[9 1] but 3"},
		// The last terms are 0, but there are k of them.
		{13, 1, repeated(8, 0), "[0] but 0"}, {31, 3, repeated(8, 0), "[0 0 0] but 0"}, {31, 2, repeated(8, 30), "[30 0] but 0"}, {257, 3, integers(256, 0, 0, 0, 4, 5, 6, 0), "[0 0 0] but 4"}, {17, 3, integers(5, 6, 7, 8), "[5 1 0] but 0"},
		// Several polynomials have as many.
		{7, 1, integers(1, 2), "no"}, {7, 1, integers(1, 1, 2, 2), "no"}, {7, 1, integers(1, 2, 3, 4, 5, 6), "no"}, {7, 2, integers(1, 3, 4), "no"}, {7, 3, integers(1, 2, 5, 3, 0, 4), "no"}, {257, 3, integers(1, 2, 4, 8), "no"}, {257, 1, integers(0, 0, 0, 0, 1, 1, 1, 1), "no"}, {257, 1, integers(0, 0, 0, 2, 1, 1, 1, 3), "no"}, {13, 2, integers(0, 0, 0, 0, 7, 7, 7, 7), "no"},
		// There are fewer than k values.
		{7, 2, integers(1), "no"}, {7, 3, integers(1, 3), "no"}, {7, 3, integers(1), "no"}, {257, 3, integers(0, 0), "no"}, {7, 1, nil, "no"}, {7, 2, integers(), "no"}, {257, 3, nil, "no"},
		// There are prime - 1 values, or 8 of them, and one more.
		{7, 1, repeated(6, 1), "[1] but 0"}, {7, 1, repeated(7, 1), "no"}, {7, 1, repeated(8, 1), "no"}, {11, 1, repeated(8, 1), "[1] but 0"}, {11, 1, repeated(9, 1), "no"}, {257, 1, repeated(9, 1), "no"}, {13, 3, repeated(12, 0), "no"}, {257, 3, make([]int64, 100000), "no"},
		{7, 0, integers(1, 1), "no"}, {7, 4, integers(1, 1, 1, 1, 1), "no"}, {257, 4, repeated(8, 1), "no"}, {257, 0, repeated(8, 0), "no"}, {257, -1, repeated(8, 0), "no"}, {257, 8, repeated(8, 0), "no"}, {257, 1<<32 + 1, repeated(8, 0), "no"}, {257, math.MaxInt64, repeated(8, 0), "no"}, {257, math.MinInt64, repeated(8, 0), "no"},
	}
	for _, c := range cases {
		wantText(t, fmt.Sprint("MendValues ", c.prime, c.k, c.values), toldMendedValues(impl.MendValues(c.prime, c.k, c.values)), c.want)
	}
	for _, prime := range notPrimes() {
		wantText(t, fmt.Sprint("MendValues ", prime), toldMendedValues(impl.MendValues(prime, 1, integers(0))), "no")
		wantText(t, fmt.Sprint("MendValues ", prime), toldMendedValues(impl.MendValues(prime, 1, integers(1, 1, 1))), "no")
	}
	for _, prime := range allPrimes() {
		for _, bad := range notOver(prime) {
			wantText(t, fmt.Sprint("MendValues ", prime, bad), toldMendedValues(impl.MendValues(prime, 1, integers(bad))), "no")
			wantText(t, fmt.Sprint("MendValues ", prime, bad), toldMendedValues(impl.MendValues(prime, 1, integers(1, 1, bad, 1))), "no")
		}
	}
}

// mendedByAll tries all messages.
func mendedByAll(prime, k int64, values []int64) string {
	messages := int64(1)
	for range k {
		messages *= prime
	}
	best, least, alone := []int64(nil), math.MaxInt, false
	for code := range messages {
		var message []int64
		for range k {
			message = append(message, code%prime)
			code /= prime
		}
		misses := 0
		for place, value := range values {
			if valueAt(prime, message, int64(place)) != value {
				misses++
			}
		}
		alone = misses < least || alone && misses > least
		if misses < least {
			best, least = message, misses
		}
	}
	if !alone {
		return "no"
	}
	return fmt.Sprint(best, " but ", least)
}

func TestPromise7MendedValuesAreBest(t *testing.T) {
	d := &drawn{73}
	for i := range 1500 {
		k := int64(1 + i%3)
		prime := allPrimes()[d.below([]int{7, 5, 2}[k-1])]
		values := d.over(prime, d.below(int(min(9, prime))))
		if message := d.over(prime, int(k)); d.below(3) > 0 {
			for place := range values {
				if d.below(4) > 0 {
					values[place] = valueAt(prime, message, int64(place))
				}
			}
		}
		wantText(t, fmt.Sprint("MendValues ", prime, k, values), toldMendedValues(impl.MendValues(prime, k, values)), mendedByAll(prime, k, values))
	}
}

// A message comes back of n values if at most half of n less k, rounded down, are wrong.
func TestPromise7FewWrongValuesAreMended(t *testing.T) {
	d := &drawn{74}
	for i := range 3000 {
		prime, k := allPrimes()[i%7], 1+d.below(3)
		n := k + d.below(int(min(8, prime-1))+1-k)
		message := d.over(prime, k)
		values, _ := impl.ValuesOver(prime, message, int64(n))
		sent := slices.Clone(values)
		for range (n - k) / 2 {
			values[d.below(n)] = int64(d.below(int(prime)))
		}
		wrong := int64(0)
		for place := range values {
			if values[place] != sent[place] {
				wrong++
			}
		}
		wantText(t, fmt.Sprint("MendValues ", prime, k, values), toldMendedValues(impl.MendValues(prime, int64(k), values)), toldMendedValues(message, wrong, true))
	}
}

func TestPromise7KeyOfBits(t *testing.T) {
	cases := []struct {
		bits, n, seed int64
		want          string
	}{
		{0, 5, 9, "0"}, {0, 16, 4294967295, "0"}, {65535, 16, 0, "36737"}, {65535, 16, 4294967295, "14804"}, {1, 1, 0, "0"}, {43690, 16, 12345, "904"}, {21845, 8, 12345, "122"}, {65535, 1, 1, "0"}, {32768, 16, 77, "21852"}, {1, 16, 77, "48684"}, {12345, 15, 2147483648, "21034"}, {65534, 16, 1, "55942"},
		{65536, 1, 0, "no"}, {65536, 16, 0, "no"}, {65537, 16, 0, "no"}, {-1, 1, 0, "no"}, {math.MaxInt64, 1, 0, "no"}, {math.MinInt64, 16, 0, "no"}, {1 << 32, 16, 0, "no"}, {0, 0, 0, "no"}, {1, 0, 9, "no"}, {1, 17, 9, "no"}, {1, 18, 9, "no"}, {1, -1, 9, "no"}, {1, 1<<32 + 1, 9, "no"}, {1, math.MaxInt64, 9, "no"}, {1, math.MinInt64, 9, "no"}, {1, 1, -1, "no"}, {1, 1, 4294967296, "no"}, {1, 1, 4294967297, "no"}, {1, 1, math.MaxInt64, "no"}, {1, 1, math.MinInt64, "no"}, {0, 16, 4294967296, "no"},
	}
	for _, c := range cases {
		wantText(t, fmt.Sprint("KeyOfBits ", c.bits, c.n, c.seed), toldInt(impl.KeyOfBits(c.bits, c.n, c.seed)), c.want)
	}
	d := &drawn{75}
	for range 2000 {
		bits, n := int64(d.below(65536)), int64(1+d.below(16))
		seed := uint32(d.below(65536))<<16 | uint32(d.below(65536))
		want, word := int64(0), seed
		for i := range n {
			word = 1664525*word + 1013904223
			want += weight(bits&int64(word>>16)) % 2 << i
		}
		wantText(t, fmt.Sprint("KeyOfBits ", bits, n, seed), toldInt(impl.KeyOfBits(bits, n, int64(seed))), fmt.Sprint(want))
	}
}
