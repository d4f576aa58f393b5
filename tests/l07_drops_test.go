package tests

import (
	"fmt"
	"math"
	"slices"
	"testing"

	"loop.example/g01364/impl"
)

// badDropped are no numbers of blocks.
func badDropped() []int64 {
	return integers(0, -1, 33, 34, 64, 1<<32, 1<<32+1, math.MaxInt64, math.MinInt64)
}

// badSeeds are no seeds.
func badSeeds() []int64 {
	return integers(-1, 1<<32, 1<<32+1, 1<<33, math.MaxInt64, math.MinInt64, math.MinInt64+1)
}

// badBlocks are no blocks, nor drops.
func badBlocks() []int64 {
	return integers(-1, 256, 257, -255, 1<<32, 1<<32+7, math.MaxInt64, math.MinInt64)
}

// seed returns any seed.
func (d *drawn) seed() int64 {
	return int64(d.below(1<<16))<<16 | int64(d.below(1<<16))
}

// blocks returns count blocks.
func (d *drawn) blocks(count int) []int64 {
	var list []int64
	for range count {
		list = append(list, int64(d.below(256)))
	}
	return list
}

// placesDrawn draws the places of a seed, whose remainders are those of 32 bits, one after another.
func placesDrawn(n, seed int64) []int64 {
	state := uint32(seed)
	draw := func() int64 {
		state = 1664525*state + 1013904223
		return int64(uint64(state) * uint64(n) >> 32)
	}
	part, count := draw()+1, int64(1)
	for count*part < n {
		count++
	}
	var places []int64
	for range count {
		place := draw()
		for slices.Contains(places, place%n) {
			place++
		}
		places = append(places, place%n)
	}
	slices.Sort(places)
	return places
}

func TestPromise8DropPlaces(t *testing.T) {
	cases := []struct {
		n, seed int64
		want    string
	}{
		{1, 5, "[0]"}, {1, 0, "[0]"}, {1, 4294967295, "[0]"}, {2, 0, "[0 1]"}, {2, 1, "[0 1]"}, {2, 2, "[0 1]"}, {2, 4294967295, "[0 1]"}, {3, 7, "[0 1 2]"}, {8, 0, "[2 3 5 6]"}, {8, 4294967295, "[1 2 5 6]"}, {32, 0, "[8 12 21 26]"}, {32, 4294967295, "[4 6 20 22]"}, {32, 123456789, "[10 11 16 17 28]"}, {31, 2147483648, "[9 24]"}, {17, 99, "[4 5 6 10]"},
		// All places, and few of them.
		{32, seedBefore(0), fmt.Sprint(upTo(32))}, {31, seedBefore(0), fmt.Sprint(upTo(31))}, {32, seedBefore(0x07ffffff), fmt.Sprint(upTo(32))}, {32, seedBefore(0x08000000), "[5 6 8 9 12 14 15 16 17 18 19 20 21 22 27 29]"}, {32, seedBefore(0x78000000), "[10 15]"}, {32, seedBefore(0x77ffffff), "[10 13 31]"}, {32, seedBefore(0xf8000000), "[26]"}, {32, seedBefore(0xffffffff), "[7]"}, {10, seedBefore(0x80000000), "[7 8]"}, {10, seedBefore(0x66666666), "[2 3 4]"}, {10, seedBefore(0x66666667), "[2 3]"}, {9, seedBefore(0x71c71c71), "[1 2 3]"}, {9, seedBefore(0x71c71c72), "[1 3]"},
		// A place that is taken becomes the next one that is free.
		{5, seedBefore(0), "[0 1 2 3 4]"}, {4, 3, "[0 1 2 3]"}, {6, 11, "[0 1 2]"}, {7, 5, "[0 1 5 6]"}, {12, 31, "[0 1 2 9]"}, {16, 5, "[3 11 12 13]"}, {20, 2, "[3 9 14 15]"},
	}
	for _, c := range cases {
		wantText(t, fmt.Sprint("DropPlaces ", c.n, " ", c.seed), toldList(impl.DropPlaces(c.n, c.seed)), c.want)
	}
	d := &drawn{97}
	for n := int64(1); n <= 32; n++ {
		for range 100 {
			seed := d.seed()
			wantText(t, fmt.Sprint("DropPlaces ", n, " ", seed), toldList(impl.DropPlaces(n, seed)), fmt.Sprint(placesDrawn(n, seed)))
		}
		for _, seed := range badSeeds() {
			wantText(t, fmt.Sprint("DropPlaces ", n, " ", seed), toldList(impl.DropPlaces(n, seed)), "no")
		}
	}
	for _, n := range badDropped() {
		for _, seed := range integers(0, 5, 4294967295) {
			wantText(t, fmt.Sprint("DropPlaces ", n, " ", seed), toldList(impl.DropPlaces(n, seed)), "no")
			wantText(t, fmt.Sprint("PeelDrops ", n, " ", seed), toldList(impl.PeelDrops(n, integers(seed), integers(7))), "no")
		}
		wantText(t, fmt.Sprint("PeelDrops of nothing ", n), toldList(impl.PeelDrops(n, nil, nil)), "no")
	}
}

func TestPromise8DropOf(t *testing.T) {
	cases := []struct {
		blocks []int64
		seed   int64
		want   string
	}{
		{integers(7), 5, "7"}, {integers(0), 5, "0"}, {integers(255), 0, "255"}, {integers(255, 254), seedBefore(0), "1"}, {integers(1, 2, 4, 8, 16, 32, 64, 128), seedBefore(0), "255"}, {repeated(32, 255), seedBefore(0), "0"}, {append(repeated(31, 255), 0), seedBefore(0), "255"}, {integers(1, 2, 4, 8, 16, 32, 64, 128), 0, "108"}, {integers(1, 2, 4, 8, 16, 32, 64, 128), 4294967295, "102"}, {integers(3, 5, 9), 7, "15"}, {integers(200, 100, 50, 25, 12), 12345, "139"},
		{nil, 5, "no"}, {integers(), 5, "no"}, {repeated(33, 7), 5, "no"}, {repeated(64, 0), 5, "no"}, {make([]int64, 100000), 5, "no"},
	}
	for _, c := range cases {
		wantText(t, fmt.Sprint("DropOf ", c.blocks, c.seed), toldInt(impl.DropOf(c.blocks, c.seed)), c.want)
	}
	for _, bad := range badBlocks() {
		for _, seed := range integers(0, 5, 4294967295) {
			wantText(t, fmt.Sprint("DropOf ", bad), toldInt(impl.DropOf(integers(bad), seed)), "no")
			wantText(t, fmt.Sprint("DropOf ", bad), toldInt(impl.DropOf(integers(0, 1, 2, bad), seed)), "no")
			wantText(t, fmt.Sprint("DropOf ", bad), toldInt(impl.DropOf(append(integers(bad), repeated(31, 0)...), seed)), "no")
		}
	}
	for _, seed := range badSeeds() {
		wantText(t, fmt.Sprint("DropOf ", seed), toldInt(impl.DropOf(integers(7), seed)), "no")
	}
	d := &drawn{98}
	for i := range 2000 {
		blocks, seed := d.blocks(1+i%32), d.seed()
		want := int64(0)
		for digit := range 8 {
			count := int64(0)
			for _, place := range placesDrawn(int64(len(blocks)), seed) {
				count += blocks[place] >> digit & 1
			}
			want += count % 2 << digit
		}
		wantText(t, fmt.Sprint("DropOf ", blocks, seed), toldInt(impl.DropOf(blocks, seed)), fmt.Sprint(want))
	}
}

// seedOf returns the first seed from least on that has these places of n.
func seedOf(t *testing.T, n, least int64, places ...int64) int64 {
	t.Helper()
	for seed := least; seed < least+1000000; seed++ {
		if slices.Equal(placesDrawn(n, seed), places) {
			return seed
		}
	}
	t.Fatalf("no seed has the places %v of %d", places, n)
	return 0
}

// dropped has the places of drops, and the drops.
type dropped struct {
	n      int64
	places [][]int64
	drops  []int64
	want   string
}

func TestPromise8PeelDrops(t *testing.T) {
	all := integers(0, 1, 2, 3)
	cases := []dropped{
		{1, [][]int64{{0}}, integers(7), "[7]"}, {1, [][]int64{{0}}, integers(0), "[0]"}, {1, [][]int64{{0}, {0}}, integers(255, 255), "[255]"}, {2, [][]int64{{0}, {1}}, integers(3, 5), "[3 5]"}, {2, [][]int64{{1}, {0}}, integers(3, 5), "[5 3]"}, {2, [][]int64{{0}, {0, 1}}, integers(3, 5), "[3 6]"}, {2, [][]int64{{0, 1}, {1}}, integers(3, 5), "[6 5]"}, {2, [][]int64{{0, 1}, {0, 1}, {1}}, integers(3, 3, 5), "[6 5]"},
		{4, [][]int64{all, {0, 2}, {2, 3}, {2}}, integers(1, 2, 4, 8), "[10 15 8 12]"}, {4, [][]int64{{2}, {2, 3}, {0, 2}, all}, integers(8, 4, 2, 1), "[10 15 8 12]"}, {3, [][]int64{{0, 1, 2}, {0, 1}, {1}}, integers(255, 15, 51), "[60 51 240]"},
		// The drops do not fit together: the first one with just one place that is not known makes it known, each time.
		{1, [][]int64{{0}, {0}}, integers(7, 8), "[7]"}, {1, [][]int64{{0}, {0}}, integers(8, 7), "[8]"}, {2, [][]int64{{0}, {0, 1}, {1}}, integers(3, 5, 7), "[3 6]"}, {2, [][]int64{{0}, {1}, {0, 1}}, integers(3, 7, 5), "[3 7]"}, {2, [][]int64{{0, 1}, {0}, {1}}, integers(5, 3, 7), "[3 6]"}, {2, [][]int64{{0, 1}, {1}, {0}}, integers(5, 7, 3), "[2 7]"}, {4, [][]int64{{0, 2}, {2, 3}, {2}, {3}, {0}, {1}}, integers(1, 2, 4, 8, 16, 32), "[5 32 4 6]"}, {4, [][]int64{all, {3}, {0}, {2}, {1}}, integers(1, 2, 4, 8, 16), "[4 15 8 2]"},
		// They tell too little.
		{2, [][]int64{{0, 1}}, integers(3), "no"}, {2, [][]int64{{0, 1}, {0, 1}}, integers(3, 5), "no"}, {2, [][]int64{{0}}, integers(3), "no"}, {2, [][]int64{{1}, {1}}, integers(3, 3), "no"}, {4, [][]int64{{0, 1}, {0, 2}, {1, 2}, {3}}, integers(3, 5, 6, 7), "no"}, {4, [][]int64{all, {0}, {2}}, integers(3, 5, 6), "no"}, {1, nil, nil, "no"}, {32, nil, nil, "no"},
	}
	for _, c := range cases {
		var seeds []int64
		for i, places := range c.places {
			seeds = append(seeds, seedOf(t, c.n, int64(i)*12345, places...))
		}
		wantText(t, fmt.Sprint("PeelDrops ", c.n, c.places, c.drops), toldList(impl.PeelDrops(c.n, seeds, c.drops)), c.want)
	}
}

func TestPromise8PeelDropsTakesAsManySeedsAsDrops(t *testing.T) {
	for count := range 70 {
		seeds, drops, want := repeated(count, 5), repeated(count, 7), "[7]"
		if count == 0 || count > 64 {
			want = "no"
		}
		wantText(t, fmt.Sprint("PeelDrops of ", count), toldList(impl.PeelDrops(1, seeds, drops)), want)
		wantText(t, fmt.Sprint("PeelDrops with one more seed than ", count), toldList(impl.PeelDrops(1, append(seeds, 5), drops)), "no")
		wantText(t, fmt.Sprint("PeelDrops with one more drop than ", count), toldList(impl.PeelDrops(1, seeds, append(drops, 7))), "no")
	}
	wantText(t, "PeelDrops of many", toldList(impl.PeelDrops(1, make([]int64, 100000), make([]int64, 100000))), "no")
	for _, bad := range badSeeds() {
		for place := range 3 {
			seeds := repeated(3, 5)
			seeds[place] = bad
			wantText(t, fmt.Sprint("PeelDrops with the seed ", bad), toldList(impl.PeelDrops(1, seeds, repeated(3, 7))), "no")
		}
	}
	for _, bad := range badBlocks() {
		for place := range 3 {
			drops := repeated(3, 7)
			drops[place] = bad
			wantText(t, fmt.Sprint("PeelDrops with the drop ", bad), toldList(impl.PeelDrops(1, repeated(3, 5), drops)), "no")
		}
	}
	wantText(t, "PeelDrops with the last seed", toldList(impl.PeelDrops(1, integers(4294967295, 0), integers(255, 0))), "[255]")
}

// peeled makes blocks known by all drops that have just one place left, in any order; drops that fit together lead to the same blocks.
func peeled(n int64, seeds, drops []int64) string {
	known := map[int64]int64{}
	for changed := true; changed; {
		changed = false
		for i, seed := range seeds {
			left, block := []int64(nil), drops[i]
			for _, place := range placesDrawn(n, seed) {
				if _, found := known[place]; !found {
					left = append(left, place)
				}
				block ^= known[place]
			}
			if len(left) == 1 {
				known[left[0]], changed = block, true
			}
		}
	}
	if len(known) < int(n) {
		return "no"
	}
	var blocks []int64
	for place := range n {
		blocks = append(blocks, known[place])
	}
	return fmt.Sprint(blocks)
}

func TestPromise8PeeledBlocksAreThoseOfDrops(t *testing.T) {
	d := &drawn{99}
	successes := 0
	for i := range 2000 {
		n := 1 + i%32
		blocks := d.blocks(n)
		var seeds, drops []int64
		for range min(64, n+d.below(2*n+2)) {
			seed := d.seed()
			drop, _ := impl.DropOf(blocks, seed)
			seeds, drops = append(seeds, seed), append(drops, drop)
		}
		got := toldList(impl.PeelDrops(int64(n), seeds, drops))
		wantText(t, fmt.Sprint("PeelDrops ", n, seeds, drops), got, peeled(int64(n), seeds, drops))
		if got != "no" {
			successes++
			wantText(t, fmt.Sprint("PeelDrops of blocks ", n, seeds), got, fmt.Sprint(blocks))
		}
	}
	if successes < 500 {
		t.Errorf("only %d times, drops tell all blocks", successes)
	}
}
