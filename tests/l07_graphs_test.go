package tests

import (
	"fmt"
	"math"
	"slices"
	"testing"

	"loop.example/g01364/impl"
)

func graph(bits int64, rows ...[]int64) impl.Graph {
	return impl.Graph{Bits: bits, Rows: rows}
}

func toldRounds(bits []bool, rounds int64, ok bool) string {
	return outcome(fmt.Sprint(digitsOf(bits), " behind ", rounds), len(bits) == 0 && rounds == 0, ok)
}

// upTo returns the numbers from 0 to n - 1.
func upTo(n int64) []int64 {
	list := make([]int64, n)
	for i := range list {
		list[i] = int64(i)
	}
	return list
}

// indices returns some of the indices of n bits, at least one of them.
func (d *drawn) indices(n, share int) []int64 {
	var row []int64
	for i := range n {
		if d.below(share) == 0 {
			row = append(row, int64(i))
		}
	}
	if row == nil {
		row = integers(int64(d.below(n)))
	}
	return row
}

// graph returns a valid graph.
func (d *drawn) graph(most int) impl.Graph {
	n := 1 + d.below(most)
	g := graph(int64(n))
	for range 1 + d.below(n) {
		g.Rows = append(g.Rows, d.indices(n, 2+d.below(n)))
	}
	return g
}

// seven is the graph of a code of Hamming, chain of pairs, square of rows that meet in two bits, and loose has bits that are in no row.
func seven() impl.Graph {
	return graph(7, integers(0, 2, 4, 6), integers(1, 2, 5, 6), integers(3, 4, 5, 6))
}
func chain() impl.Graph  { return graph(4, integers(0, 1), integers(1, 2), integers(2, 3)) }
func square() impl.Graph { return graph(4, integers(0, 1, 2), integers(1, 2, 3)) }
func loose() impl.Graph  { return graph(5, integers(1, 3)) }
func lone() impl.Graph   { return graph(3, integers(1), integers(0, 2)) }

// full has as many bits and rows as a graph can have, all bits in all rows.
func fullGraph() impl.Graph { return graph(32, slices.Repeat([][]int64{upTo(32)}, 32)...) }

// grid has nine bits in rows and columns.
func grid() impl.Graph {
	return graph(9, integers(0, 1, 2), integers(3, 4, 5), integers(6, 7, 8), integers(0, 3, 6), integers(1, 4, 7), integers(2, 5, 8))
}

func someGraphs() []impl.Graph {
	return []impl.Graph{
		graph(1, integers(0)), graph(1, integers(0), integers(0)), graph(2, integers(0)), graph(32, integers(31)), graph(32, upTo(32)), seven(), chain(), square(), loose(), lone(), fullGraph(), grid(), graph(3, integers(0, 2), integers(0, 2), integers(0, 1, 2)), graph(1, slices.Repeat([][]int64{{0}}, 32)...),
	}
}

// notGraphs are not valid.
func notGraphs() []impl.Graph {
	return []impl.Graph{
		{}, graph(0), graph(0, integers(0)), graph(0, nil), graph(-1, integers(0)), graph(33, integers(0)), graph(33, upTo(33)), graph(1<<32, integers(0)), graph(1<<32+3, integers(0)), graph(math.MaxInt64, integers(0)), graph(math.MinInt64, integers(0)),
		graph(3), {Bits: 3, Rows: [][]int64{}}, graph(3, slices.Repeat([][]int64{{0, 1}}, 33)...), graph(3, make([][]int64, 10000)...), graph(3, slices.Repeat([][]int64{{0}}, 10000)...),
		graph(3, nil), graph(3, integers()), graph(3, integers(0, 1), nil), graph(3, integers(), integers(0, 1)), graph(3, integers(0), integers(), integers(1)),
		graph(3, integers(1, 0)), graph(3, integers(0, 0)), graph(3, integers(0, 1, 1)), graph(3, integers(0, 2, 1)), graph(3, integers(0, 1), integers(2, 2)), graph(3, integers(2, 1, 0)), graph(4, integers(0, 1, 2, 3, 0)), graph(32, append(upTo(32), 31)), graph(32, append(upTo(32), 32)), graph(32, make([]int64, 100000)),
		graph(3, integers(3)), graph(3, integers(-1)), graph(3, integers(-1, 0)), graph(3, integers(0, 3)), graph(3, integers(0, 1), integers(1, 3)), graph(32, integers(32)), graph(1, integers(0, 1)), graph(3, integers(math.MaxInt64)), graph(3, integers(math.MinInt64)), graph(3, integers(0, 1<<32)), graph(3, integers(math.MinInt64, 1)), graph(32, integers(1<<32+1)),
	}
}

func TestPromise8Graphs(t *testing.T) {
	for _, g := range someGraphs() {
		wantBool(t, fmt.Sprint("ValidGraph ", g), impl.ValidGraph(g), true)
	}
	for i, g := range notGraphs() {
		what := fmt.Sprint(" of not a graph ", i)
		wantBool(t, "ValidGraph"+what, impl.ValidGraph(g), false)
		for _, count := range []int64{0, 1, 3, 4, 32, 33, min(100, max(0, g.Bits))} {
			bits, soft := make([]bool, count), repeatedNumbers(-1, int(count))
			wantText(t, "IsMember"+what, toldBool(impl.IsMember(g, bits)), "no")
			wantText(t, "FlipRounds"+what, toldRounds(impl.FlipRounds(g, bits, 3)), "no")
			wantText(t, "LeastRounds"+what, toldRounds(impl.LeastRounds(g, soft, 3)), "no")
		}
	}
}

func TestPromise8SameGraph(t *testing.T) {
	all := append(someGraphs(), notGraphs()...)
	var texts []string
	for _, g := range all {
		texts = append(texts, fmt.Sprint(g))
	}
	for i, a := range all {
		for j, b := range all {
			wantBool(t, fmt.Sprint("SameGraph ", i, j), impl.SameGraph(a, b), texts[i] == texts[j])
		}
		wantBool(t, fmt.Sprint("SameGraph with one more bit ", i), impl.SameGraph(a, graph(a.Bits+1, a.Rows...)), false)
		wantBool(t, fmt.Sprint("SameGraph with one more row ", i), impl.SameGraph(a, graph(a.Bits, append(slices.Clone(a.Rows), nil)...)), false)
	}
	wantBool(t, "SameGraph of rows in another order", impl.SameGraph(graph(3, integers(0, 1), integers(1, 2)), graph(3, integers(1, 2), integers(0, 1))), false)
	wantBool(t, "SameGraph of nil and empty rows", impl.SameGraph(graph(3, nil, integers(1)), graph(3, integers(), integers(1))), true)
	wantBool(t, "SameGraph without rows", impl.SameGraph(graph(3), impl.Graph{Bits: 3, Rows: [][]int64{}}), true)
}

// isEven counts the bits true of each row.
func isEven(g impl.Graph, bits []bool) bool {
	for _, row := range g.Rows {
		count := 0
		for _, bit := range row {
			if bits[bit] {
				count++
			}
		}
		if count%2 != 0 {
			return false
		}
	}
	return true
}

func TestPromise8IsMember(t *testing.T) {
	cases := []struct {
		g          impl.Graph
		bits, want string
	}{
		{graph(1, integers(0)), "0", "true"}, {graph(1, integers(0)), "1", "false"}, {graph(2, integers(0)), "01", "true"}, {graph(2, integers(0)), "10", "false"}, {chain(), "1111", "true"}, {chain(), "0000", "true"}, {chain(), "0111", "false"}, {chain(), "1110", "false"}, {square(), "0110", "true"}, {square(), "1011", "true"}, {square(), "1001", "false"}, {loose(), "10101", "true"}, {loose(), "01010", "true"}, {loose(), "01000", "false"}, {lone(), "101", "true"}, {lone(), "111", "false"}, {seven(), "1110000", "true"}, {seven(), "1110001", "false"}, {fullGraph(), ones(32), "true"}, {fullGraph(), oneAmong(5, 26), "false"}, {graph(32, integers(31)), oneAmong(31, 0), "false"}, {graph(32, integers(31)), oneAmong(30, 1), "true"}, {grid(), "110110000", "true"}, {grid(), "111000000", "false"},
		{chain(), "", "no"}, {chain(), "111", "no"}, {chain(), "11111", "no"}, {loose(), "0101", "no"}, {fullGraph(), zeros(33), "no"}, {fullGraph(), zeros(31), "no"}, {chain(), ones(100000), "no"},
	}
	for _, c := range cases {
		wantText(t, fmt.Sprint("IsMember ", c.g, c.bits), toldBool(impl.IsMember(c.g, bools(c.bits))), c.want)
	}
	d := &drawn{90}
	for range 2000 {
		g := d.graph(8)
		bits := d.bits(int(g.Bits))
		wantText(t, fmt.Sprint("IsMember ", g, digitsOf(bits)), toldBool(impl.IsMember(g, bits)), fmt.Sprint(isEven(g, bits)))
	}
}

// badMost are numbers of rounds that are not allowed.
func badMost() []int64 { return integers(-1, 65, 66, 1<<32, 1<<32+1, math.MaxInt64, math.MinInt64) }

// rounds have a graph, bits or numbers, and how many rounds are made at the most.
type rounds struct {
	g    impl.Graph
	bits string
	most int64
	want string
}

func TestPromise8FlipRounds(t *testing.T) {
	cases := []rounds{
		{graph(3, integers(0, 1), integers(1, 2)), "101", 4, "111 behind 1"}, {chain(), "1111", 0, "1111 behind 0"}, {chain(), "1111", 64, "1111 behind 0"}, {chain(), "0100", 0, "no"}, {chain(), "0100", 1, "0000 behind 1"}, {chain(), "0100", 64, "0000 behind 1"}, {chain(), "1000", 64, "0000 behind 1"}, {graph(1, integers(0)), "1", 1, "0 behind 1"}, {graph(1, integers(0)), "1", 0, "no"}, {graph(1, integers(0)), "0", 0, "0 behind 0"},
		// All bits with the greatest number are changed at once.
		{graph(2, integers(0, 1)), "10", 64, "no"}, {graph(2, integers(0, 1), integers(1)), "01", 64, "00 behind 1"}, {graph(3, integers(0, 1, 2)), "111", 64, "000 behind 1"}, {graph(3, integers(0, 1, 2)), "100", 64, "011 behind 1"}, {graph(4, integers(0, 1), integers(2, 3)), "1010", 64, "no"}, {graph(3, integers(0, 2), integers(0, 2), integers(0, 1, 2)), "100", 64, "no"}, {lone(), "011", 64, "no"}, {lone(), "010", 64, "000 behind 1"},
		{seven(), "1110001", 64, "1110000 behind 1"}, {seven(), "0000001", 64, "0000000 behind 1"}, {seven(), "1000000", 64, "0000000 behind 1"}, {seven(), "0001000", 64, "0000000 behind 1"}, {seven(), "0010000", 64, "0000000 behind 1"}, {seven(), "0000011", 64, "1000011 behind 1"}, {seven(), "0000011", 1, "1000011 behind 1"}, {square(), "1000", 64, "0000 behind 1"}, {square(), "1001", 64, "no"}, {square(), "0100", 64, "no"}, {grid(), "100000000", 64, "000000000 behind 1"}, {grid(), "100010000", 64, "no"}, {grid(), "110000000", 64, "no"}, {grid(), "100010001", 64, "011101110 behind 1"}, {grid(), "111010010", 64, "000101101 behind 1"}, {grid(), "101010110", 64, "101011110 behind 1"},
		{graph(3, integers(0, 1), integers(1), integers(1, 2)), "011", 64, "000 behind 3"}, {graph(3, integers(0, 1), integers(1), integers(1, 2)), "011", 3, "000 behind 3"}, {graph(3, integers(0, 1), integers(1), integers(1, 2)), "011", 2, "no"}, {graph(6, integers(0, 1, 2, 5), integers(1, 2, 4), integers(3, 5), integers(1, 5), integers(2, 4)), "110100", 4, "000000 behind 4"}, {graph(6, integers(1, 2), integers(0), integers(0, 2), integers(1, 3), integers(0, 1, 4)), "011001", 64, "000001 behind 5"}, {graph(7, integers(0, 2, 4, 5), integers(0), integers(3, 5), integers(0), integers(0, 1, 2, 6), integers(0), integers(2, 5)), "1101100", 7, "0111010 behind 7"},
		// No bit has more odd rows than others.
		{graph(2, integers(0, 1), integers(0), integers(1)), "10", 64, "00 behind 1"}, {graph(3, integers(0, 1), integers(0, 2), integers(1, 2)), "100", 64, "000 behind 1"}, {graph(4, integers(0, 1), integers(0, 2), integers(0, 3), integers(1, 2, 3)), "0110", 64, "no"}, {loose(), "10101", 64, "10101 behind 0"}, {loose(), "11001", 64, "no"}, {loose(), "01111", 64, "01111 behind 0"},
		{fullGraph(), oneAmong(0, 31), 64, "no"}, {fullGraph(), "11" + zeros(30), 64, "11" + zeros(30) + " behind 0"}, {graph(32, upTo(31)), oneAmong(0, 31), 1, zeros(1) + ones(30) + "0 behind 1"}, {graph(32, integers(31)), ones(32), 1, ones(31) + "0 behind 1"},
		{chain(), "", 4, "no"}, {chain(), "111", 4, "no"}, {chain(), "11111", 4, "no"}, {fullGraph(), zeros(33), 4, "no"}, {chain(), zeros(100000), 4, "no"},
	}
	for _, c := range cases {
		wantText(t, fmt.Sprint("FlipRounds ", c.g, c.bits, c.most), toldRounds(impl.FlipRounds(c.g, bools(c.bits), c.most)), c.want)
		for _, most := range badMost() {
			wantText(t, fmt.Sprint("FlipRounds ", c.g, c.bits, most), toldRounds(impl.FlipRounds(c.g, bools(c.bits), most)), "no")
		}
	}
}

// flippedOnce makes one round, and reports whether there are bits to change.
func flippedOnce(g impl.Graph, bits []bool) ([]bool, bool) {
	more := make([]int, len(bits))
	for _, row := range g.Rows {
		one := graph(g.Bits, row)
		for _, bit := range row {
			if isEven(one, bits) {
				more[bit]--
			} else {
				more[bit]++
			}
		}
	}
	next, greatest := slices.Clone(bits), slices.Max(more)
	for i := range bits {
		next[i] = bits[i] != (more[i] == greatest)
	}
	return next, greatest > 0
}

func TestPromise8FlipRoundsAreMade(t *testing.T) {
	d := &drawn{91}
	times := map[int64]int{}
	for i := range 6000 {
		g, most := d.graph([]int{5, 12, 32}[i%3]), int64(d.below(65))
		bits := d.bits(int(g.Bits))
		now, count, left, want := bits, int64(0), true, "no"
		for left && count < most && !isEven(g, now) {
			if now, left = flippedOnce(g, now); left {
				count++
			}
		}
		if left && isEven(g, now) {
			want = toldRounds(now, count, true)
			times[count]++
		}
		wantText(t, fmt.Sprint("FlipRounds ", g, digitsOf(bits), most), toldRounds(impl.FlipRounds(g, bits, most)), want)
	}
	if times[0] < 10 || times[1] < 10 || times[2] < 10 || times[3] < 5 {
		t.Errorf("too few graphs tell rounds: %v", times)
	}
}

// leastRounds have a graph, soft numbers, and how many rounds are made at the most.
type leastRounds struct {
	g    impl.Graph
	soft []float32
	most int64
	want string
}

func TestPromise8LeastRounds(t *testing.T) {
	high := most()
	cases := []leastRounds{
		{graph(3, integers(0, 1), integers(1, 2)), chances(2, -1, 2), 4, "111 behind 1"}, {chain(), chances(1, 1, 1, 1), 0, "1111 behind 0"}, {chain(), chances(1, 1, 1, -1), 0, "no"}, {chain(), chances(1, 1, 1, -1), 1, "no"}, {chain(), chances(-1, 3, 3, -1), 64, "1111 behind 1"}, {chain(), chances(5, -1, -1, 5), 64, "1111 behind 1"}, {chain(), chances(5, -1, -1, -1), 64, "no"}, {chain(), chances(5, -1, -1, -1), 1, "no"}, {chain(), chances(5, -1, -1, -1), 2, "no"},
		// Numbers of 0 tell nothing, and are bits false.
		{chain(), chances(0, 0, 0, 0), 0, "0000 behind 0"}, {chain(), chances(num(minusZero), 0, 0, 0), 64, "0000 behind 0"}, {chain(), chances(1, 0, 0, 0), 64, "1111 behind 3"}, {chain(), chances(1, 0, 0, 0), 2, "no"}, {chain(), chances(1, num(minusZero), num(minusZero), num(minusZero)), 3, "1111 behind 3"}, {chain(), chances(0, 1, 0, 0), 64, "1111 behind 2"}, {graph(2, integers(0, 1)), chances(0, 1), 64, "11 behind 1"}, {graph(2, integers(0, 1)), chances(num(minusZero), 1), 64, "11 behind 1"}, {graph(3, integers(0, 1, 2)), chances(1, 0, 0), 64, "no"}, {graph(3, integers(0, 1, 2)), chances(1, 0, 0), 0, "no"}, {graph(3, integers(0, 1, 2)), chances(0, 0, num(least)), 64, "no"},
		// Bits that are alone in a row must be false.
		{graph(1, integers(0)), chances(749.9), 64, "0 behind 1"}, {graph(1, integers(0)), chances(750), 64, "0 behind 1"}, {graph(1, integers(0)), chances(num(0x443b8001)), 64, "no"}, {graph(1, integers(0)), chances(751), 64, "no"}, {graph(1, integers(0), integers(0)), chances(1500), 64, "0 behind 1"}, {graph(1, integers(0), integers(0)), chances(1501), 64, "no"}, {graph(1, integers(0)), chances(-751), 0, "0 behind 0"}, {graph(1, integers(0)), chances(1), 0, "no"}, {lone(), chances(1, 5, 2), 64, "101 behind 1"}, {lone(), chances(1, 5, -2), 64, "000 behind 1"}, {lone(), chances(1, 800, 1), 64, "no"},
		{seven(), chances(1, 1, 1, -1, -1, -1, 0.5), 64, "1110000 behind 1"}, {seven(), chances(1, 1, 0.2, 0.3, -1, 0.1, 0.5), 64, "1101001 behind 2"}, {seven(), chances(-1, -1, -1, -1, -1, -1, 1), 64, "0010110 behind 1"}, {seven(), chances(-1, -1, -1, -1, -1, -1, 3), 64, "no"}, {seven(), chances(-1, -1, -1, 1, -1, -1, -1), 64, "0000000 behind 2"}, {seven(), chances(3, 1, -2, 0.7, 1, -1, -0.1), 64, "no"}, {seven(), chances(1, 1, 1, 1, 1, 1, -1), 64, "1101001 behind 1"}, {square(), chances(1, 0.5, -2, -1), 64, "no"}, {square(), chances(1, 0.5, 0.25, -1), 64, "no"}, {square(), chances(3, -1, -1, 3), 64, "no"}, {square(), chances(3, -1, -0.5, -3), 64, "no"}, {square(), chances(1, 1, 1, 1), 64, "no"},
		{grid(), chances(-1, 2, -1, 0.5, -1, -1, -0.5, -1, -2), 64, "110110000 behind 3"}, {grid(), chances(1, 1, 1, 1, 1, 1, 1, 1, 1), 64, "000000000 behind 1"}, {grid(), chances(0.4, 0.1, -0.7, 0.3, 0.8, -0.2, 0.6, -0.9, -0.5), 64, "110110000 behind 2"}, {loose(), chances(1, 2, -3, -4, 5), 64, "10001 behind 1"}, {loose(), chances(1, 2, -3, -4, 5), 1, "10001 behind 1"}, {loose(), chances(-1, 0.5, 3, 0.1, 0), 0, "01110 behind 0"}, {graph(3, integers(0, 2), integers(0, 2), integers(0, 1, 2)), chances(1, 0.5, -0.8), 64, "no"}, {graph(3, integers(0, 2), integers(0, 2), integers(0, 1, 2)), chances(2, 5, 0.8), 64, "no"},
		{fullGraph(), repeatedNumbers(1, 32), 0, ones(32) + " behind 0"}, {fullGraph(), append(repeatedNumbers(1, 31), -0.1), 64, "no"}, {graph(32, upTo(31), upTo(32)), append(repeatedNumbers(1, 31), 0.7), 64, "no"},
		// Sums that are too great become infinities, and still tell bits.
		{chain(), chances(high, high, high, -high), 64, "1111 behind 2"}, {chain(), chances(high, high, -1, high), 64, "1111 behind 1"}, {chain(), chances(high, -high, high, high), 2, "1111 behind 1"}, {chain(), chances(-high, high, -high, high), 1, "no"}, {graph(3, integers(0, 1), integers(0, 1), integers(0, 2)), chances(high, -1, -1), 64, "111 behind 1"}, {graph(3, integers(0, 1, 2), integers(0, 1), integers(0, 1, 2)), chances(high, -1, high), 64, "000 behind 5"},
		{chain(), nil, 4, "no"}, {chain(), chances(1, 1, 1), 4, "no"}, {chain(), chances(1, 1, 1, 1, 1), 4, "no"}, {fullGraph(), repeatedNumbers(1, 33), 4, "no"}, {fullGraph(), repeatedNumbers(1, 161), 4, "no"}, {chain(), make([]float32, 100000), 4, "no"},
	}
	for _, bits := range notFinite() {
		cases = append(cases, leastRounds{chain(), chances(1, 1, 1, num(bits)), 4, "no"}, leastRounds{loose(), chances(num(bits), 1, 1, 1, 1), 4, "no"}, leastRounds{graph(1, integers(0)), chances(num(bits)), 64, "no"})
	}
	for _, c := range cases {
		wantText(t, fmt.Sprint("LeastRounds ", c.g, hex(c.soft...), c.most), toldRounds(impl.LeastRounds(c.g, c.soft, c.most)), c.want)
		for _, most := range badMost() {
			wantText(t, fmt.Sprint("LeastRounds ", c.g, hex(c.soft...), most), toldRounds(impl.LeastRounds(c.g, c.soft, most)), "no")
		}
	}
}

// edge is a bit of a row.
type edge struct{ row, bit int64 }

// messagesOnce returns the messages of one more round.
func messagesOnce(g impl.Graph, soft []float32, old map[edge]float32) map[edge]float32 {
	to, next := map[edge]float32{}, map[edge]float32{}
	for r, row := range g.Rows {
		for _, bit := range row {
			sum := soft[bit]
			for q := range g.Rows {
				if message, found := old[edge{int64(q), bit}]; found && q != r {
					sum += message
				}
			}
			to[edge{int64(r), bit}] = sum
		}
	}
	for r, row := range g.Rows {
		for _, bit := range row {
			var sizes []float64
			sign := float32(-1)
			for _, other := range row {
				if message := to[edge{int64(r), other}]; other != bit {
					sizes = append(sizes, math.Abs(float64(message)))
					if message > 0 {
						sign = -sign
					}
				}
			}
			size := 1000.0
			if len(sizes) > 0 {
				size = slices.Min(sizes)
			}
			next[edge{int64(r), bit}] = sign * float32(0.75*size)
		}
	}
	return next
}

func TestPromise8LeastRoundsAreMade(t *testing.T) {
	d := &drawn{92}
	times := map[int64]int{}
	for i := range 3000 {
		g, most := d.graph([]int{5, 12, 32}[i%3]), int64(d.below(1+d.below(65)))
		soft := d.soft(int(g.Bits))
		if i%2 == 0 {
			soft = d.few(int(g.Bits))
		}
		messages, count, want := map[edge]float32{}, int64(0), "no"
		bits, _ := impl.HardOf(soft)
		for count < most && !isEven(g, bits) {
			messages = messagesOnce(g, soft, messages)
			for bit := range bits {
				sum := soft[bit]
				for r := range g.Rows {
					sum += messages[edge{int64(r), int64(bit)}]
				}
				bits[bit] = sum > 0
			}
			count++
		}
		if isEven(g, bits) {
			want = toldRounds(bits, count, true)
			times[count]++
		}
		wantText(t, fmt.Sprint("LeastRounds ", g, hex(soft...), most), toldRounds(impl.LeastRounds(g, soft, most)), want)
	}
	if times[0] < 10 || times[1] < 10 || times[2] < 10 || times[3] < 10 || times[4] < 5 {
		t.Errorf("too few graphs tell rounds: %v", times)
	}
}

// What is returned is a member, and a member is returned at once.
func TestPromise8RoundsEndAtMembers(t *testing.T) {
	d := &drawn{93}
	for range 2000 {
		g := d.graph(12)
		soft := d.soft(int(g.Bits))
		hard, _ := impl.HardOf(soft)
		flipped, _, one := impl.FlipRounds(g, hard, 64)
		least, _, two := impl.LeastRounds(g, soft, 64)
		for i, bits := range [][]bool{flipped, least} {
			if !([]bool{one, two}[i]) {
				continue
			}
			wantText(t, fmt.Sprint("IsMember ", g, digitsOf(bits)), toldBool(impl.IsMember(g, bits)), "true")
			for _, most := range integers(0, 1, 64) {
				wantText(t, fmt.Sprint("FlipRounds of a member ", g), toldRounds(impl.FlipRounds(g, bits, most)), toldRounds(bits, 0, true))
				again, _ := impl.SoftOf(bits, 1)
				wantText(t, fmt.Sprint("LeastRounds of a member ", g), toldRounds(impl.LeastRounds(g, again, most)), toldRounds(bits, 0, true))
			}
		}
	}
}
