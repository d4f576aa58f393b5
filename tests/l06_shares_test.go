package tests

import (
	"fmt"
	"math"
	"slices"
	"testing"

	"loop.example/g01364/impl"
)

func allPrimes() []int64 { return integers(7, 11, 13, 17, 31, 127, 257) }

// notPrimes are numbers over which nothing is reckoned, some of them primes all the same.
func notPrimes() []int64 {
	return integers(0, 1, -1, 2, 3, 5, 6, 8, 9, 10, 12, 14, 15, 16, 18, 19, 23, 29, 30, 32, 37, 61, 63, 126, 128, 251, 255, 256, 258, 509, 65537, 1<<32+7, -7, -257, math.MaxInt64, math.MinInt64)
}

// notOver are no numbers over a prime.
func notOver(prime int64) []int64 {
	return integers(prime, prime+1, 2*prime, -1, -prime, 1<<32, math.MaxInt64, math.MinInt64)
}

// valueAt returns the value of a polynomial by its powers.
func valueAt(prime int64, terms []int64, place int64) int64 {
	value, power := int64(0), int64(1)
	for _, term := range terms {
		value = (value + term*power) % prime
		power = power * place % prime
	}
	return value
}

// over returns count numbers over a prime.
func (d *drawn) over(prime int64, count int) []int64 {
	var list []int64
	for range count {
		list = append(list, int64(d.below(int(prime))))
	}
	return list
}

// places returns count places over a prime, all different and none of them 0.
func (d *drawn) places(prime int64, count int) []int64 {
	var list []int64
	for len(list) < count {
		if place := 1 + int64(d.below(int(prime-1))); !slices.Contains(list, place) {
			list = append(list, place)
		}
	}
	return list
}

func TestPromise7ShareSecret(t *testing.T) {
	cases := []struct {
		prime, secret int64
		more          []int64
		count         int64
		want          string
	}{
		{7, 2, integers(1), 3, "[3 4 5]"}, {7, 2, integers(1), 1, "[3]"}, {7, 5, integers(0, 0, 0), 6, "[5 5 5 5 5 5]"}, {7, 0, nil, 1, "[0]"}, {7, 6, integers(), 2, "[6 6]"}, {13, 3, integers(4, 5), 8, "[12 5 8 8 5 12 3 4]"}, {17, 16, integers(16), 8, "[15 14 13 12 11 10 9 8]"}, {127, 5, integers(0, 0, 126), 8, "[4 124 105 68 7 43 43 1]"}, {31, 30, integers(0, 0, 0, 0, 0, 0, 1), 8, "[0 3 16 15 4 5 27 1]"},
		// There are 7 more terms, and one more.
		{7, 6, repeated(7, 6), 6, "[6 4 3 2 1 0]"}, {11, 10, repeated(7, 10), 8, "[3 9 9 1 2 6 6 1]"}, {257, 256, integers(1, 2, 3, 4, 5, 6, 7), 8, "[27 252 249 173 231 61 145 187]"}, {257, 256, repeated(7, 256), 8, "[249 2 61 0 4 233 123 37]"}, {7, 6, repeated(8, 6), 6, "no"}, {257, 256, repeated(8, 0), 8, "no"}, {257, 256, make([]int64, 100000), 8, "no"}, {257, 256, make([]int64, 512), 1, "no"},
		// There are prime - 1 shares, or 8 of them, and one more.
		{7, 2, integers(1), 6, "[3 4 5 6 0 1]"}, {7, 2, integers(1), 7, "no"}, {7, 2, integers(1), 8, "no"}, {11, 2, integers(1), 8, "[3 4 5 6 7 8 9 10]"}, {11, 2, integers(1), 9, "no"}, {257, 2, integers(1), 9, "no"}, {13, 2, integers(1), 12, "no"}, {7, 2, integers(1), 0, "no"}, {257, 2, nil, 0, "no"}, {7, 2, nil, -1, "no"}, {257, 2, nil, math.MaxInt64, "no"}, {257, 2, nil, math.MinInt64, "no"},
	}
	for _, c := range cases {
		wantText(t, fmt.Sprint("ShareSecret ", c.prime, c.secret, c.more, c.count), toldList(impl.ShareSecret(c.prime, c.secret, c.more, c.count)), c.want)
	}
	for _, prime := range notPrimes() {
		wantText(t, fmt.Sprint("ShareSecret ", prime), toldList(impl.ShareSecret(prime, 0, nil, 1)), "no")
		wantText(t, fmt.Sprint("ShareSecret ", prime, " of more"), toldList(impl.ShareSecret(prime, 1, integers(1, 0), 2)), "no")
	}
	for _, prime := range allPrimes() {
		for _, bad := range notOver(prime) {
			wantText(t, fmt.Sprint("ShareSecret ", prime, bad), toldList(impl.ShareSecret(prime, bad, integers(1), 2)), "no")
			wantText(t, fmt.Sprint("ShareSecret of more ", prime, bad), toldList(impl.ShareSecret(prime, 1, integers(bad), 2)), "no")
			wantText(t, fmt.Sprint("ShareSecret of more ", prime, bad), toldList(impl.ShareSecret(prime, 1, integers(1, 0, 0, 0, 0, 0, bad), 2)), "no")
		}
	}
}

func TestPromise7JoinShares(t *testing.T) {
	cases := []struct {
		prime          int64
		places, shares []int64
		want           string
	}{
		{7, integers(1, 3), integers(3, 5), "2"}, {7, integers(3, 1), integers(5, 3), "2"}, {7, integers(1, 2), integers(3, 4), "2"}, {7, integers(2, 3), integers(4, 5), "2"}, {7, integers(1, 2, 3), integers(3, 4, 5), "2"}, {7, integers(2), integers(4), "4"}, {257, integers(256), integers(0), "0"}, {7, integers(1, 2, 3, 4, 5, 6), integers(3, 4, 5, 6, 0, 1), "2"}, {17, integers(1, 16), integers(1, 1), "1"},
		{11, integers(1, 2, 3, 4, 5, 6, 7, 8), repeated(8, 10), "10"}, {257, integers(256, 1), integers(0, 2), "1"}, {257, integers(10, 200, 30, 4, 50, 60, 70, 256), integers(1, 2, 3, 4, 5, 6, 7, 8), "99"}, {13, integers(12, 6, 1), integers(0, 1, 12), "12"}, {31, integers(30, 29), integers(0, 1), "30"}, {127, integers(126, 1, 64), integers(100, 0, 3), "63"},
	}
	for _, c := range cases {
		wantText(t, fmt.Sprint("JoinShares ", c.prime, c.places, c.shares), toldInt(impl.JoinShares(c.prime, c.places, c.shares)), c.want)
		wantText(t, fmt.Sprint("JoinShares, turned, ", c.prime, c.places, c.shares), toldInt(impl.JoinShares(c.prime, turnedList(c.places), turnedList(c.shares))), c.want)
	}
}

func turnedList(list []int64) []int64 {
	turned := slices.Clone(list)
	slices.Reverse(turned)
	return turned
}

// sharing is what may be shares at places.
type sharing struct {
	prime          int64
	places, shares []int64
}

// notShared are no shares at places.
func notShared() []sharing {
	all := []sharing{
		{7, nil, nil}, {257, integers(), integers()}, {7, nil, integers(1)}, {7, integers(1), nil}, {7, integers(1, 2), integers(1)}, {7, integers(1), integers(1, 2)}, {11, integers(1, 2, 3, 4, 5, 6, 7, 8), repeated(7, 1)}, {11, integers(1, 2, 3, 4, 5, 6, 7), repeated(8, 1)},
		{11, integers(1, 2, 3, 4, 5, 6, 7, 8, 9), repeated(9, 1)}, {257, integers(1, 2, 3, 4, 5, 6, 7, 8, 9), repeated(9, 1)}, {257, allWords(8)[1:], allWords(8)[1:]}, {257, make([]int64, 100000), make([]int64, 100000)}, {7, integers(1, 2, 3, 4, 5, 6, 1), repeated(7, 1)}, {7, integers(1, 2, 3, 4, 5, 6, 7), repeated(7, 1)},
		{7, integers(0), integers(1)}, {7, integers(0, 1), integers(1, 2)}, {7, integers(1, 0), integers(1, 2)}, {257, integers(5, 6, 0), integers(1, 1, 1)}, {7, integers(1, 1), integers(3, 5)}, {7, integers(1, 1), integers(3, 3)}, {257, integers(9, 8, 9), integers(1, 2, 1)}, {257, integers(1, 2, 3, 4, 5, 6, 7, 1), repeated(8, 0)},
	}
	for _, prime := range notPrimes() {
		all = append(all, sharing{prime, integers(1), integers(0)}, sharing{prime, integers(1, 2), integers(1, 1)})
	}
	for _, prime := range allPrimes() {
		for _, bad := range notOver(prime) {
			all = append(all, sharing{prime, integers(bad), integers(1)}, sharing{prime, integers(1, bad), integers(1, 2)}, sharing{prime, integers(1), integers(bad)}, sharing{prime, integers(1, 2, 3), integers(1, 2, bad)}, sharing{prime, integers(1, 2, 3), integers(bad, 2, 1)})
		}
	}
	return all
}

func TestPromise7NotShared(t *testing.T) {
	for _, c := range notShared() {
		what := fmt.Sprint(c.prime, len(c.places), len(c.shares))
		wantText(t, "JoinShares "+what, toldInt(impl.JoinShares(c.prime, c.places, c.shares)), "no")
		for need := int64(1); need <= 8; need++ {
			wantText(t, fmt.Sprint("FitsShares ", what, " of ", need), toldBool(impl.FitsShares(c.prime, need, c.places, c.shares)), "no")
		}
	}
}

func TestPromise7FitsShares(t *testing.T) {
	cases := []struct {
		prime, need    int64
		places, shares []int64
		want           string
	}{
		{7, 2, integers(1, 2, 3), integers(3, 4, 5), "true"}, {7, 2, integers(1, 2, 3), integers(3, 4, 6), "false"}, {7, 3, integers(1, 2, 3), integers(3, 4, 6), "true"}, {7, 1, integers(1, 2, 3), integers(3, 4, 5), "false"}, {7, 1, integers(1, 2, 3), integers(3, 3, 3), "true"}, {7, 1, integers(1, 2, 3), integers(3, 3, 4), "false"}, {7, 1, integers(4), integers(6), "true"}, {7, 8, integers(4), integers(6), "true"},
		// There are as few shares as terms, or fewer.
		{7, 2, integers(1, 2), integers(3, 0), "true"}, {7, 3, integers(1, 2), integers(3, 0), "true"}, {257, 8, integers(1, 256), integers(3, 0), "true"}, {257, 8, integers(1, 2, 3, 4, 5, 6, 7, 8), integers(0, 1, 0, 1, 0, 1, 0, 1), "true"}, {257, 7, integers(1, 2, 3, 4, 5, 6, 7, 8), integers(0, 1, 0, 1, 0, 1, 0, 1), "false"}, {11, 7, integers(1, 2, 3, 4, 5, 6, 7, 8), integers(0, 1, 0, 1, 0, 1, 0, 1), "false"},
		{13, 3, integers(1, 2, 3, 4, 5, 6, 7, 8), integers(12, 5, 8, 8, 5, 12, 3, 4), "true"}, {13, 2, integers(1, 2, 3, 4, 5, 6, 7, 8), integers(12, 5, 8, 8, 5, 12, 3, 4), "false"}, {13, 4, integers(1, 2, 3, 4, 5, 6, 7, 8), integers(12, 5, 8, 8, 5, 12, 3, 4), "true"}, {13, 3, integers(1, 2, 3, 4, 5, 6, 7, 8), integers(12, 5, 8, 8, 5, 12, 3, 5), "false"}, {13, 3, integers(8, 2, 3, 4, 5, 6, 7, 1), integers(4, 5, 8, 8, 5, 12, 3, 12), "true"},
	}
	for _, c := range cases {
		wantText(t, fmt.Sprint("FitsShares ", c.prime, c.need, c.places, c.shares), toldBool(impl.FitsShares(c.prime, c.need, c.places, c.shares)), c.want)
		for _, need := range integers(0, 9, 10, -1, 1<<32+2, math.MaxInt64, math.MinInt64) {
			wantText(t, fmt.Sprint("FitsShares ", c.prime, need, c.places, c.shares), toldBool(impl.FitsShares(c.prime, need, c.places, c.shares)), "no")
		}
	}
}

// As many shares as there are terms lead back, whichever they are, and they fit together unless one is changed.
func TestPromise7SharesLeadBack(t *testing.T) {
	d := &drawn{71}
	for i := range 3000 {
		prime := allPrimes()[i%7]
		terms := d.over(prime, 1+d.below(8))
		count := int64(1 + d.below(int(min(8, prime-1))))
		shares, ok := impl.ShareSecret(prime, terms[0], terms[1:], count)
		wantBool(t, fmt.Sprint("ShareSecret ", prime, terms, count), ok && int64(len(shares)) == count, true)
		for k, share := range shares {
			wantInt(t, fmt.Sprint("share ", k+1, " of ", prime, terms), share, valueAt(prime, terms, int64(k)+1))
		}
		places := d.places(prime, min(int(prime)-1, len(terms)+d.below(9-len(terms))))
		var there []int64
		for _, place := range places {
			there = append(there, valueAt(prime, terms, place))
		}
		need := int64(len(terms))
		what := fmt.Sprint(prime, places, there)
		wantText(t, "FitsShares "+what, toldBool(impl.FitsShares(prime, need, places, there)), "true")
		// Over 7, there are too few places for all polynomials.
		if len(places) < len(terms) {
			continue
		}
		wantText(t, "JoinShares "+what, toldInt(impl.JoinShares(prime, places, there)), fmt.Sprint(terms[0]))
		changed := d.below(len(there))
		there[changed] = (there[changed] + 1 + int64(d.below(int(prime)-1))) % prime
		wantText(t, fmt.Sprint("FitsShares, changed, ", what), toldBool(impl.FitsShares(prime, need, places, there)), fmt.Sprint(len(places) == len(terms)))
	}
}

// All shares that are fewer than the terms are there as often with each secret.
func TestPromise7TooFewSharesTellNothing(t *testing.T) {
	for _, places := range [][]int64{{1, 2}, {2, 5}, {6, 3}} {
		for secret := range int64(7) {
			seen := map[[2]int64]int{}
			for more := range int64(49) {
				shares, _ := impl.ShareSecret(7, secret, integers(more/7, more%7), 6)
				seen[[2]int64{shares[places[0]-1], shares[places[1]-1]}]++
			}
			wantInt(t, fmt.Sprint("pairs of shares of ", secret, " at ", places), int64(len(seen)), 49)
		}
	}
}

// Each two shares of a line, and each three of a bend, lead back over the least prime.
func TestPromise7AllSharesOverSeven(t *testing.T) {
	for code := range int64(343) {
		terms := integers(code%7, code/7%7, code/49)
		shares, _ := impl.ShareSecret(7, terms[0], terms[1:], 6)
		for a := int64(1); a <= 6; a++ {
			for b := int64(1); b <= 6; b++ {
				for c := int64(1); c <= 6; c++ {
					if a == b || a == c || b == c {
						continue
					}
					wantText(t, fmt.Sprint("JoinShares of ", terms, " at ", a, b, c), toldInt(impl.JoinShares(7, integers(a, b, c), integers(shares[a-1], shares[b-1], shares[c-1]))), fmt.Sprint(terms[0]))
				}
			}
		}
		fits, _ := impl.FitsShares(7, 2, integers(1, 2, 3, 4, 5, 6), shares)
		wantBool(t, fmt.Sprint("FitsShares of ", terms), fits, terms[2] == 0)
	}
}
