package tests

import (
	"slices"
	"strings"
	"testing"

	"loop.example/g01364/impl"
)

// chanceArguments are one of each kind that functions of chapter 2 take.
type chanceArguments struct {
	a, b, scores []float32
	x            float32
	t, u         impl.Table
	counts       []int64
	n, k         int64
	many         [][]float32
}

// callChances calls every function of chapter 2, and returns what each one returns.
func callChances(a chanceArguments) []string {
	return []string{
		resultText(impl.IsRow(a.a), impl.ValidTable(a.t), impl.SameTable(a.t, a.u)),
		listed(impl.EvenRow(a.n)),
		listed(impl.RowOfCounts(a.counts)),
		listed(impl.SmoothRow(a.counts, a.x)),
		listed(impl.SurpriseOf(a.x)),
		listed(impl.EntropyOf(a.a)),
		listed(impl.OrderEntropy(a.a, a.x)),
		listed(impl.MixRows(a.a, a.b, a.x)),
		listed(impl.TiltRow(a.a, a.scores, a.x)),
		listed(impl.CrossEntropy(a.a, a.b)),
		listed(impl.MoreBits(a.a, a.b)),
		listed(impl.SpreadOf(a.a, a.b)),
		listed(impl.FarOfRows(a.a, a.b)),
		listed(impl.RootFar(a.a, a.b)),
		listed(impl.IsMoreEven(a.a, a.b)),
		listed(impl.JoinRows(a.a, a.b)),
		listed(impl.TurnTable(a.t)),
		listed(impl.RowPart(a.t)),
		listed(impl.ColumnPart(a.t)),
		listed(impl.GivenRow(a.t, a.k)),
		listed(impl.TableEntropy(a.t)),
		listed(impl.GivenEntropy(a.t)),
		listed(impl.CommonBits(a.t)),
		listed(impl.CountTypes(a.n, a.k)),
		listed(impl.WordsOfType(a.counts)),
		listed(impl.TypeChance(a.a, a.counts)),
		toldDraw(impl.DrawLetters(a.a, a.n, a.k)),
		listed(impl.EntropiesShared(a.many, a.k)),
	}
}

// lists are all slices of arguments, whose unused capacity is told too.
func (a chanceArguments) lists() string {
	var b strings.Builder
	for _, list := range append([][]float32{a.a, a.b, a.scores, a.t.Chances, a.u.Chances}, a.many[:cap(a.many)]...) {
		b.WriteString(hex(list[:cap(list)]...) + ";")
	}
	return b.String() + resultText(a.counts[:cap(a.counts)])
}

// strangeRow returns a row of n chances, or what a strange number makes of it.
func (d *drawn) strangeRow(n int) []float32 {
	row := d.row(n)
	if bits := strangeBits(); d.below(4) == 0 {
		row[d.below(n)] = num(bits[d.below(len(bits))])
	}
	if d.below(16) == 0 {
		return nil
	}
	return row
}

// strangeChances picks the i-th of many mixtures of rows and strange values.
func strangeChances(i int) chanceArguments {
	d := &drawn{uint64(i)}
	for range 3 {
		d.below(2)
	}
	bits, integers := strangeBits(), strangeIntegers()
	n := 1 + d.below([]int{1, 4, 8, 32, 34}[d.below(5)])
	a := chanceArguments{a: d.strangeRow(n), b: d.strangeRow(n), x: num(bits[d.below(len(bits))]), t: d.table(), u: d.table(), n: integers[d.below(len(integers))], k: int64(d.below(10))}
	if d.below(2) == 0 {
		a.x = float32(d.below(1000)) / 999
	}
	if d.below(2) == 0 {
		a.n = int64(d.below(34))
	}
	if d.below(4) == 0 {
		a.k = integers[d.below(len(integers))]
	}
	if d.below(4) == 0 {
		a.t.Rows = integers[d.below(len(integers))]
	}
	if d.below(4) == 0 {
		a.t.Chances = d.strangeRow(len(a.t.Chances))
	}
	for range n {
		a.scores = append(a.scores, float32(d.below(7))-3)
		a.counts = append(a.counts, int64(d.below(4)))
	}
	if d.below(4) == 0 {
		a.scores[d.below(n)] = num(bits[d.below(len(bits))])
		a.counts[d.below(n)] = integers[d.below(len(integers))]
	}
	for range d.below(66) {
		a.many = append(a.many, d.row(1+d.below(4)))
	}
	return a
}

func TestPromise1ChancesReturnAndRepeat(t *testing.T) {
	wantRepeats(t, 3000, func(i int) []string { return callChances(strangeChances(i)) })
}

func TestPromise1ChancesDifferByWorkersInNothing(t *testing.T) {
	for i := range 200 {
		a := strangeChances(i)
		alone := listed(impl.EntropiesShared(a.many, 1))
		for workers := int64(2); workers <= 8; workers++ {
			wantText(t, "EntropiesShared", listed(impl.EntropiesShared(a.many, workers)), alone)
		}
	}
}

func TestPromise1ChancesStay(t *testing.T) {
	for i := range 1000 {
		a := strangeChances(i)
		a.a, a.b, a.scores = roomy(a.a, 77), roomy(a.b, 77), roomy(a.scores, 77)
		a.t.Chances, a.u.Chances = roomy(a.t.Chances, 77), roomy(a.u.Chances, 77)
		a.counts = roomy(a.counts, 77)
		for k, row := range a.many {
			a.many[k] = roomy(row, 77)
		}
		a.many = roomy(a.many, []float32{77})
		before := a.lists()
		callChances(a)
		if after := a.lists(); after != before {
			t.Fatalf("arguments %d: were %s, became %s", i, before, after)
		}
	}
}

func TestPromise1ChancesNilAndEmpty(t *testing.T) {
	with := chanceArguments{a: []float32{}, b: []float32{}, scores: []float32{}, counts: []int64{}, many: [][]float32{}}
	with.t.Chances, with.u.Chances = []float32{}, []float32{}
	if one, two := callChances(chanceArguments{}), callChances(with); !slices.Equal(one, two) {
		t.Errorf("nil lists: got %q, empty lists: got %q", one, two)
	}
}

// results returns all lists that functions of chapter 2 return of valid arguments.
func results(a, b []float32, t impl.Table, counts []int64) [][]float32 {
	var lists [][]float32
	keep := func(list []float32, _ bool) { lists = append(lists, list) }
	keepTable := func(t impl.Table, _ bool) { keep(t.Chances, true) }
	keep(impl.EvenRow(4))
	keep(impl.RowOfCounts(counts))
	keep(impl.SmoothRow(counts, 0))
	keep(impl.MixRows(a, b, 0))
	keep(impl.MixRows(a, b, 1))
	keep(impl.TiltRow(a, []float32{0, 0, 0, 0}, 0))
	keep(impl.RowPart(t))
	keep(impl.ColumnPart(t))
	keep(impl.GivenRow(t, 0))
	keep(impl.EntropiesShared([][]float32{a, b}, 2))
	keepTable(impl.JoinRows(a, []float32{1}))
	keepTable(impl.JoinRows([]float32{1}, b))
	keepTable(impl.TurnTable(t))
	return lists
}

func TestPromise1ChancesAreNew(t *testing.T) {
	a, b, one := four(), quarters(), table(1, 4, four()...)
	first := results(a, b, one, []int64{1, 2, 3, 4})
	want := resultText(a, b, one)
	text := ""
	for i, list := range first {
		if len(list) == 0 {
			t.Errorf("result %d is empty", i)
		}
		text += hex(list...) + ";"
		spoil(list, float32(i))
	}
	for i, list := range first {
		if list[0] != float32(i) {
			t.Errorf("result %d shares memory with another one", i)
		}
	}
	wantText(t, "arguments after results are written over", resultText(a, b, one), want)
	again := ""
	for _, list := range results(a, b, one, []int64{1, 2, 3, 4}) {
		again += hex(list...) + ";"
	}
	wantText(t, "results after others are written over", again, text)
	letters, _, _ := impl.DrawLetters(a, 1, 8)
	before := resultText(letters)
	spoil(letters, -1)
	letters, _, _ = impl.DrawLetters(a, 1, 8)
	wantText(t, "letters that are drawn again", resultText(letters), before)
}
