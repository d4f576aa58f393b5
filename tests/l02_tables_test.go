package tests

import (
	"math"
	"testing"

	"loop.example/g01364/impl"
)

func table(rows, columns int64, chances ...float32) impl.Table {
	return impl.Table{Rows: rows, Columns: columns, Chances: chances}
}

func badTables() []impl.Table {
	tables := []impl.Table{
		{}, table(1, 1), table(0, 0, 1), table(0, 1, 1), table(1, 0, 1), table(-1, -1, 1), table(1, 2, 1), table(2, 1, 1), table(1, 1, 0.5, 0.5), table(2, 2, 0.5, 0.5, 0),
		table(9, 1, repeatedNumbers(1.0/9, 9)...), table(1, 9, repeatedNumbers(1.0/9, 9)...), table(8, 9, repeatedNumbers(1.0/72, 72)...),
		table(math.MaxInt64, math.MaxInt64, 1), table(math.MinInt64, math.MinInt64), table(1<<32, 1<<32), table(math.MaxInt64, 1, 1), table(1, math.MaxInt64, 1),
	}
	for _, row := range badRows() {
		if len(row) >= 1 && len(row) <= 8 {
			tables = append(tables, table(1, int64(len(row)), row...), table(int64(len(row)), 1, row...))
		}
	}
	return append(tables, table(8, 8, append(repeatedNumbers(1.0/64, 63), num(noNumber))...), table(8, 8, append(repeatedNumbers(1.0/64, 63), -1.0/64)...))
}

func TestPromise3ValidTable(t *testing.T) {
	tables := []impl.Table{
		table(1, 1, 1), table(1, 1, highest()), table(1, 1, lowest()), table(2, 2, 0.5, 0, 0.25, 0.25), table(1, 4, four()...), table(4, 1, gaps()...),
		table(8, 8, repeatedNumbers(1.0/64, 64)...), table(1, 8, repeatedNumbers(0.125, 8)...), table(8, 1, repeatedNumbers(0.125, 8)...), table(3, 2, 0, 0, 0, num(minusZero), 0, 1),
		table(8, 4, append([]float32{highest()}, repeatedNumbers(0x1p-25, 31)...)...),
	}
	for _, valid := range tables {
		wantBool(t, "ValidTable "+toldTable(valid, true), impl.ValidTable(valid), true)
	}
	for _, bad := range badTables() {
		wantBool(t, "ValidTable "+toldTable(bad, true), impl.ValidTable(bad), false)
	}
}

func TestPromise3SameTable(t *testing.T) {
	nothing := num(noNumber)
	cases := []struct {
		what string
		a, b impl.Table
		want bool
	}{
		{"equal ones", table(2, 2, 0.5, 0, 0.25, 0.25), table(2, 2, 0.5, 0, 0.25, 0.25), true},
		{"another chance", table(2, 2, 0.5, 0, 0.25, 0.25), table(2, 2, 0.5, 0, 0.25, 0.5), false},
		{"another shape", table(1, 2, 0.5, 0.5), table(2, 1, 0.5, 0.5), false},
		{"other rows", table(1, 2, 0.5, 0.5), table(2, 2, 0.5, 0.5), false},
		{"other columns", table(1, 1, 0.5, 0.5), table(1, 2, 0.5, 0.5), false},
		{"more chances", table(1, 1, 1), table(1, 1, 1, 0), false},
		{"fewer chances", table(1, 1, 1, 0), table(1, 1, 1), false},
		{"two zeros", table(1, 2, 0, 1), table(1, 2, num(minusZero), 1), false},
		{"negative zeros", table(1, 2, num(minusZero), 1), table(1, 2, num(minusZero), 1), true},
		{"not-a-numbers", table(1, 1, nothing), table(1, 1, num(0xffc00001)), true},
		{"a not-a-number", table(1, 1, nothing), table(1, 1, 1), false},
		{"nil and empty", table(3, -4), impl.Table{Rows: 3, Columns: -4, Chances: []float32{}}, true},
		{"zero values", impl.Table{}, impl.Table{}, true},
		{"invalid ones", table(math.MaxInt64, math.MinInt64, 7), table(math.MaxInt64, math.MinInt64, 7), true},
	}
	for _, c := range cases {
		wantBool(t, "SameTable: "+c.what, impl.SameTable(c.a, c.b), c.want)
		wantBool(t, "SameTable, exchanged: "+c.what, impl.SameTable(c.b, c.a), c.want)
	}
}

func TestPromise3JoinRows(t *testing.T) {
	full := repeatedNumbers(0.125, 8)
	cases := []struct {
		a, b []float32
		want string
	}{
		{[]float32{0.5, 0.5}, []float32{0.25, 0.75}, "2x2:3e000000,3ec00000,3e000000,3ec00000"},
		{quarters(), []float32{0.3, 0.7}, "4x2:3e19999a,3eb33333,3d99999a,3e333333,3d19999a,3db33333,3d19999a,3db33333"},
		{[]float32{1}, four(), "1x4:" + hex(four()...)},
		{four(), []float32{1}, "4x1:" + hex(four()...)},
		{[]float32{1}, []float32{1}, "1x1:3f800000"},
		{[]float32{highest()}, []float32{1}, "1x1:3f8020c4"},
		{[]float32{0, 1}, []float32{num(minusZero), 1}, "2x2:80000000,00000000,80000000,3f800000"},
		{full, full, "8x8:" + hex(repeatedNumbers(1.0/64, 64)...)},
		// The sum of the products is farther from 1 than both sums.
		{[]float32{highest()}, []float32{highest()}, "no"},
		{[]float32{lowest()}, []float32{lowest()}, "no"},
		// The products would be a table, but they are not those of rows.
		{[]float32{2}, []float32{0.5}, "no"},
		{[]float32{0.5}, []float32{2}, "no"},
		{[]float32{-1}, []float32{-1}, "no"},
		{append(full, 0), []float32{1}, "no"},
		{[]float32{1}, append(full, 0), "no"},
	}
	for _, c := range cases {
		wantText(t, "JoinRows "+hex(c.a...)+" and "+hex(c.b...), toldTable(impl.JoinRows(c.a, c.b)), c.want)
	}
	for _, row := range badRows() {
		wantText(t, "JoinRows 1 and "+hex(row...), toldTable(impl.JoinRows([]float32{1}, row)), "no")
		wantText(t, "JoinRows "+hex(row...)+" and 1", toldTable(impl.JoinRows(row, []float32{1})), "no")
	}
}

// ofTable tells what functions of a table return.
type ofTable struct {
	what                  string
	t                     impl.Table
	turned, rows, columns string
	all, given, common    string
}

func (c ofTable) want(t *testing.T) {
	t.Helper()
	wantText(t, "TurnTable: "+c.what, toldTable(impl.TurnTable(c.t)), c.turned)
	wantText(t, "RowPart: "+c.what, toldRow(impl.RowPart(c.t)), c.rows)
	wantText(t, "ColumnPart: "+c.what, toldRow(impl.ColumnPart(c.t)), c.columns)
	wantText(t, "TableEntropy: "+c.what, toldNumber(impl.TableEntropy(c.t)), c.all)
	wantText(t, "GivenEntropy: "+c.what, toldNumber(impl.GivenEntropy(c.t)), c.given)
	wantText(t, "CommonBits: "+c.what, toldNumber(impl.CommonBits(c.t)), c.common)
}

func TestPromise3Tables(t *testing.T) {
	all := hex(four()...)
	cases := []ofTable{
		{"two rows", table(2, 3, 0.1, 0.2, 0.05, 0.3, 0.15, 0.2), "3x2:3dcccccd,3e99999a,3e4ccccd,3e19999a,3d4ccccd,3e4ccccd",
			"3eb33334,3f266667", "3ecccccd,3eb33334,3e800000", "401a280f", "3fbcc094", "3dac888f"},
		{"three rows", table(3, 2, 0.1, 0, 0.2, 0.3, 0, 0.4), "2x3:3dcccccd,3e4ccccd,00000000,00000000,3e99999a,3ecccccd",
			"3dcccccd,3f000000,3ecccccd", "3e99999a,3f333334", "3fec5820", "3ef89038", "3ecaa856"},
		{"equal ones", table(2, 2, 0.5, 0, 0, 0.5), "2x2:3f000000,00000000,00000000,3f000000", "3f000000,3f000000", "3f000000,3f000000", "3f800000", "00000000", "3f800000"},
		{"a row of none", table(3, 2, 0, 0, 0.3, 0.3, 0.4, 0), "2x3:00000000,3e99999a,3ecccccd,00000000,3e99999a,00000000",
			"00000000,3f19999a,3ecccccd", "3f333334,3e99999a", "3fc914ea", "3f19999a", "3e90055a"},
		{"one row", table(1, 4, four()...), "4x1:" + all, "3f800000", all, "3fec5820", "3fec5820", "00000000"},
		{"one column", table(4, 1, four()...), "1x4:" + all, all, "3f800000", "3fec5820", "00000000", "00000000"},
		{"one chance", table(1, 1, 1), "1x1:3f800000", "3f800000", "3f800000", "00000000", "00000000", "00000000"},
	}
	for _, c := range cases {
		c.want(t)
	}
	for _, bad := range badTables() {
		ofTable{toldTable(bad, true), bad, "no", "no", "no", "no", "no", "no"}.want(t)
	}
}

// The chances of these tables have a sum near enough to 1 in their own order, but not in others.
func TestPromise3TablesAtTheEdge(t *testing.T) {
	rowsAlone := table(2, 2, num(0x3ea369c9), num(0x3dcc9860), num(0x3ee7d267), num(0x3e02354c))
	wantText(t, "RowPart", toldRow(impl.RowPart(rowsAlone)), "no")
	wantBool(t, "ColumnPart is there", toldRow(impl.ColumnPart(rowsAlone)) != "no", true)
	wantBool(t, "TurnTable is there", toldTable(impl.TurnTable(rowsAlone)) != "no", true)
	wantText(t, "GivenEntropy without RowPart", toldNumber(impl.GivenEntropy(rowsAlone)), "no")
	wantText(t, "CommonBits without RowPart", toldNumber(impl.CommonBits(rowsAlone)), "no")

	columnsAlone := table(2, 3, num(0x3c84c5ac), num(0x3ed03d2f), num(0x3b4b046e), num(0x3ee20859), num(0x3dcd0140), num(0x3d08d6ae))
	wantBool(t, "RowPart is there", toldRow(impl.RowPart(columnsAlone)) != "no", true)
	wantText(t, "ColumnPart", toldRow(impl.ColumnPart(columnsAlone)), "no")
	wantBool(t, "GivenEntropy is there", toldNumber(impl.GivenEntropy(columnsAlone)) != "no", true)
	wantText(t, "CommonBits without ColumnPart", toldNumber(impl.CommonBits(columnsAlone)), "no")

	turnAlone := table(2, 3, num(0x3db5f5af), num(0x3dfa7df5), num(0x3e805791), num(0x3ebcdc70), num(0x3dcd0140), num(0x3d8fc75e))
	wantText(t, "TurnTable", toldTable(impl.TurnTable(turnAlone)), "no")
	wantBool(t, "ColumnPart is there without TurnTable", toldRow(impl.ColumnPart(turnAlone)) != "no", true)
	wantBool(t, "CommonBits is there without TurnTable", toldNumber(impl.CommonBits(turnAlone)) != "no", true)
}

func TestPromise3GivenRow(t *testing.T) {
	some := table(3, 2, 0.1, 0, 0.2, 0.3, 0, 0.4)
	gap := table(3, 2, 0, num(minusZero), 0.3, 0.3, 0.4, 0)
	small := table(2, 2, num(least), num(least), 1, 0)
	full := table(8, 8, repeatedNumbers(1.0/64, 64)...)
	cases := []struct {
		t    impl.Table
		i    int64
		want string
	}{
		{some, 0, "3f800000,00000000"}, {some, 1, "3ecccccd,3f19999a"}, {some, 2, "00000000,3f800000"},
		{table(2, 3, 0.1, 0.2, 0.05, 0.3, 0.15, 0.2), 0, "3e924924,3f124924,3e124924"},
		{gap, 1, "3f000000,3f000000"}, {small, 0, "3f000000,3f000000"}, {small, 1, "3f800000,00000000"}, {table(1, 1, highest()), 0, "3f800000"},
		{full, 7, hex(repeatedNumbers(0.125, 8)...)},
		{gap, 0, "no"}, {some, 3, "no"}, {some, -1, "no"}, {full, 8, "no"}, {some, math.MaxInt64, "no"}, {some, math.MinInt64, "no"},
	}
	for _, c := range cases {
		wantText(t, "GivenRow of "+toldTable(c.t, true), toldRow(impl.GivenRow(c.t, c.i)), c.want)
	}
	for _, bad := range badTables() {
		wantText(t, "GivenRow of "+toldTable(bad, true), toldRow(impl.GivenRow(bad, 0)), "no")
	}
}

func TestPromise3TablesFitTogether(t *testing.T) {
	d := &drawn{4}
	for range 2000 {
		drawn := d.table()
		rows, _ := impl.RowPart(drawn)
		columns, _ := impl.ColumnPart(drawn)
		ofRows, _ := impl.EntropyOf(rows)
		ofColumns, _ := impl.EntropyOf(columns)
		all, _ := impl.TableEntropy(drawn)
		given, one := impl.GivenEntropy(drawn)
		common, two := impl.CommonBits(drawn)
		if !one || !two || !near(all, ofRows+given) || !near(common, ofRows+ofColumns-all) || common < -1e-5 {
			t.Errorf("%v: entropies %v of rows, %v of columns, %v of all, %v given, %v in common", drawn, ofRows, ofColumns, all, given, common)
		}
		turned, _ := impl.TurnTable(drawn)
		if again, ok := impl.CommonBits(turned); !ok || !near(again, common) {
			t.Errorf("%v: %v in common, %v where it is turned", drawn, common, again)
		}
		if back, _ := impl.TurnTable(turned); !impl.SameTable(back, drawn) {
			t.Errorf("%v is turned back to %v", drawn, back)
		}
	}
}

func TestPromise3AloneTellsNothing(t *testing.T) {
	d := &drawn{5}
	for range 2000 {
		a, b := d.row(1+d.below(8)), d.row(1+d.below(8))
		joined, ok := impl.JoinRows(a, b)
		common, two := impl.CommonBits(joined)
		if !ok || !two || !near(common, 0) {
			t.Errorf("%v and %v have %v bits in common", a, b, common)
		}
		ofA, _ := impl.EntropyOf(a)
		ofB, _ := impl.EntropyOf(b)
		all, _ := impl.TableEntropy(joined)
		given, _ := impl.GivenEntropy(joined)
		if !near(all, ofA+ofB) || !near(given, ofB) {
			t.Errorf("%v and %v: entropies %v and %v, joined %v, given %v", a, b, ofA, ofB, all, given)
		}
		alone, _ := impl.CommonBits(table(1, int64(len(a)), a...))
		if !near(alone, 0) {
			t.Errorf("one row of %v has %v bits in common", a, alone)
		}
	}
}
