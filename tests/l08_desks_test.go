package tests

import (
	"fmt"
	"math"
	"slices"
	"strings"
	"testing"

	"loop.example/g01364/impl"
)

func desk(row []float32, c impl.Code, p impl.Parity, bits string) impl.Desk {
	return impl.Desk{Row: row, Code: c, Parity: p, Bits: bits}
}

// fresh is the desk that a new one must be.
func fresh() impl.Desk { return desk(chances(0.5, 0.25, 0.25), code(1, 2, 2), hamming(), "01011") }

// deskText tells a desk.
func deskText(d impl.Desk) string {
	return fmt.Sprintf("%s %v %d;%v %q", hex(d.Row...), d.Code.Longs, d.Parity.Wide, d.Parity.Rows, d.Bits)
}

// isZeroDesk reports whether all parts of a desk are zero values.
func isZeroDesk(d impl.Desk) bool { return deskText(d) == deskText(impl.Desk{}) }

func someDesks() []impl.Desk {
	return []impl.Desk{
		fresh(), desk(chances(1), code(1), parity(1, 1), ""), desk(chances(1, 0), code(32), parity(16, 32768), "0"), desk(chances(0, 1), code(2, 2, 1), reed(), "1"), desk(chances(num(minusZero), 1), code(2, 2, 1), reed(), "1"),
		desk(repeatedNumbers(1.0/32, 32), code(sixteen(4)...), doubled(), ones(64)), desk(gaps(), ladder(), cyclic(), zeros(64)), desk(tiny(), code(sixteen(32)...), mixedRows(), strings.Repeat("01", 32)), desk(four(), code(3, 2, 5, 2, 5, 4), parity(2, 1, 2), zeros(63)),
		desk(chances(highest()), code(1, 1), parity(3, 7), "0110"), desk(chances(lowest()), code(1, 1), parity(3, 7), "0110"), desk(quarters(), code(1, 2, 3, 3), parity(16, powers(1, 8)...), "0101"),
	}
}

// notDesks are valid in all parts but one, or in none.
func notDesks() []impl.Desk {
	list := []impl.Desk{{}}
	for _, row := range badRows() {
		list = append(list, desk(row, code(1, 2, 2), hamming(), "01011"))
	}
	for _, c := range badCodes() {
		list = append(list, desk(halves(), c, hamming(), "01011"))
	}
	for _, p := range notParities() {
		list = append(list, desk(halves(), code(1, 2, 2), p, ""))
	}
	for _, bits := range append(badBits(), zeros(65), ones(65), zeros(64)+"2", zeros(512), "0\n", " ", "0,1", "none") {
		list = append(list, desk(halves(), code(1, 2, 2), hamming(), bits))
	}
	return list
}

func TestPromise9ValidDesk(t *testing.T) {
	for _, d := range someDesks() {
		wantBool(t, "ValidDesk "+deskText(d), impl.ValidDesk(d), true)
	}
	for i, d := range notDesks() {
		wantBool(t, fmt.Sprint("ValidDesk of one that is not ", i), impl.ValidDesk(d), false)
	}
	for count := range 130 {
		d := fresh()
		d.Bits = strings.Repeat("01", count)[count:]
		wantBool(t, fmt.Sprint("ValidDesk with bits ", count), impl.ValidDesk(d), count <= 64)
	}
}

func TestPromise9SameDesk(t *testing.T) {
	all := append(someDesks(), notDesks()...)
	var texts []string
	for _, d := range all {
		texts = append(texts, deskText(d))
	}
	for i, a := range all {
		for j, b := range all {
			wantBool(t, fmt.Sprint("SameDesk ", i, j), impl.SameDesk(a, b), texts[i] == texts[j])
		}
	}
}

func TestPromise9SameDeskByParts(t *testing.T) {
	cases := []struct {
		what string
		with func(d *impl.Desk)
		same bool
	}{
		{"nothing", func(d *impl.Desk) {}, true},
		{"a chance", func(d *impl.Desk) { d.Row[1] = 0.125 }, false},
		{"the order of chances", func(d *impl.Desk) { d.Row = chances(0.25, 0.5, 0.25) }, false},
		{"a chance more", func(d *impl.Desk) { d.Row = append(d.Row, 0) }, false},
		{"a chance less", func(d *impl.Desk) { d.Row = d.Row[:2] }, false},
		{"no chances", func(d *impl.Desk) { d.Row = nil }, false},
		{"a Long", func(d *impl.Desk) { d.Code.Longs[2] = 3 }, false},
		{"the order of Longs", func(d *impl.Desk) { d.Code = code(2, 2, 1) }, false},
		{"a Long less", func(d *impl.Desk) { d.Code = code(1, 2) }, false},
		{"Wide", func(d *impl.Desk) { d.Parity.Wide = 8 }, false},
		{"a Row", func(d *impl.Desk) { d.Parity.Rows[3] = 74 }, false},
		{"the order of Rows", func(d *impl.Desk) { slices.Reverse(d.Parity.Rows) }, false},
		{"a Row less", func(d *impl.Desk) { d.Parity.Rows = d.Parity.Rows[:3] }, false},
		{"a bit", func(d *impl.Desk) { d.Bits = "01010" }, false},
		{"a bit more", func(d *impl.Desk) { d.Bits = "010110" }, false},
		{"no bits", func(d *impl.Desk) { d.Bits = "" }, false},
	}
	for _, c := range cases {
		other := fresh()
		c.with(&other)
		wantBool(t, "SameDesk with another in "+c.what, impl.SameDesk(fresh(), other), c.same)
		wantBool(t, "SameDesk with another in "+c.what+", turned", impl.SameDesk(other, fresh()), c.same)
	}
}

func TestPromise9SameDeskByNumbers(t *testing.T) {
	withRow := func(row ...float32) impl.Desk { return desk(row, code(1, 2, 2), hamming(), "01011") }
	for _, a := range strangeBits() {
		for _, b := range strangeBits() {
			same := bitsOf(num(a)) == bitsOf(num(b))
			wantBool(t, fmt.Sprintf("SameDesk of %08x and %08x", a, b), impl.SameDesk(withRow(0.5, num(a)), withRow(0.5, num(b))), same)
		}
	}
	wantBool(t, "SameDesk of zeros with signs", impl.SameDesk(withRow(0, 1), withRow(num(minusZero), 1)), false)
	wantBool(t, "SameDesk of not-a-numbers", impl.SameDesk(withRow(num(noNumber)), withRow(num(0xffffffff))), true)
	wantBool(t, "SameDesk of none", impl.SameDesk(impl.Desk{}, impl.Desk{Row: []float32{}}), true)
}

func TestPromise9NewDesk(t *testing.T) {
	d := impl.NewDesk()
	wantText(t, "NewDesk", deskText(d), `3f000000,3e800000,3e800000 [1 2 2] 7;[7 25 42 75] "01011"`)
	wantBool(t, "ValidDesk of NewDesk", impl.ValidDesk(d), true)
	wantBool(t, "SameDesk of NewDesk and what it must be", impl.SameDesk(d, fresh()), true)
}

// listAsTold returns the decimal numbers of a list that is not empty.
func listAsTold(list []int64) string {
	return strings.ReplaceAll(strings.Trim(fmt.Sprint(list), "[]"), " ", ",")
}

func TestPromise9CodeText(t *testing.T) {
	wantText(t, "CodeText", toldText(impl.CodeText(code(2, 1))), `"2,1"`)
	wantText(t, "CodeText", toldText(impl.CodeText(code(1, 32, 32))), `"1,32,32"`)
	wantText(t, "CodeText", toldText(impl.CodeText(code(7))), `"7"`)
	for _, c := range goodCodes() {
		text := listAsTold(c.Longs)
		wantText(t, "CodeText", toldText(impl.CodeText(c)), toldText(text, true))
		wantText(t, "ReadCode "+text, toldCode(impl.ReadCode(text)), toldCode(c, true))
	}
	for _, c := range badCodes() {
		wantText(t, fmt.Sprintf("CodeText %.100v", c), toldText(impl.CodeText(c)), "no")
		wantText(t, fmt.Sprintf("ReadCode %.100v", c), toldCode(impl.ReadCode(listAsTold(c.Longs))), "no")
	}
}

func TestPromise9ReadCodeFails(t *testing.T) {
	bad := append(slices.DeleteFunc(strangeTexts(), func(text string) bool { return text == "1,2" }), "None", "2,1,", ",2,1", "2,,1", "2 1", "2, 1", " 2,1", "2,1 ", "2,1\n", "2;1", "02,1", "+2,1", "-2,1", "2,0", "2,33", "0", "33", "1.0", "0x2", "a", "2,a", "2,1,none", "none,2", "7;7,25", "٢", "1\x00", "1,1,1", "4294967297", strings.Repeat("5,", 16)+"5", strings.Repeat("32,", 63)+"32")
	for _, text := range bad {
		wantText(t, fmt.Sprintf("ReadCode %.40q", text), toldCode(impl.ReadCode(text)), "no")
	}
}

func TestPromise9ParityText(t *testing.T) {
	wantText(t, "ParityText", toldText(impl.ParityText(parity(3, 5))), `"3;5"`)
	wantText(t, "ParityText", toldText(impl.ParityText(hamming())), `"7;7,25,42,75"`)
	wantText(t, "ParityText", toldText(impl.ParityText(parity(16, 65535))), `"16;65535"`)
	for _, p := range someParities() {
		text := fmt.Sprintf("%d;%s", p.Wide, listAsTold(p.Rows))
		wantText(t, "ParityText", toldText(impl.ParityText(p)), toldText(text, true))
		wantText(t, "ReadParity "+text, toldParity(impl.ReadParity(text)), toldParity(p, true))
	}
	for _, p := range notParities() {
		wantText(t, fmt.Sprintf("ParityText %.100v", p), toldText(impl.ParityText(p)), "no")
		wantText(t, fmt.Sprintf("ReadParity %.100v", p), toldParity(impl.ReadParity(fmt.Sprintf("%d;%s", p.Wide, listAsTold(p.Rows)))), "no")
	}
}

func TestPromise9ReadParityFails(t *testing.T) {
	bad := append(strangeTexts(), ";", ";;", "3", "5", "3,5", "3;", ";5", "3;none", "none;5", "none", "3;5;", ";3;5", "3;;5", "3;5;6", "3;5,", "3;,5", "3;5,,6", "3;5 ", "3; 5", "3 ;5", " 3;5", "3;5\n", "3:5", "03;5", "3;05", "+3;5", "3;+5", "-3;5", "3;-5", "-0;5", "3.0;5", "3;5.0", "0x3;5", "a;5", "3;a", "3;8", "3;0", "3;5,5", "3;3,5,6", "0;1", "17;1", "17;65536", "16;65536", "3;5\x00", "٣;5", "4294967299;5", "3;4294967301", "1000000000000001;1", fmt.Sprint(uint64(math.MaxUint64), ";1"), "9;1,2,4,8,16,32,64,128,256", strings.Repeat(";", 100000), "3"+strings.Repeat(";5", 1000))
	for _, text := range bad {
		wantText(t, fmt.Sprintf("ReadParity %.40q", text), toldParity(impl.ReadParity(text)), "no")
	}
}

// All texts of a few signs are read as what has them, or not at all.
func TestPromise9ReadsWhatIsWritten(t *testing.T) {
	read := map[string]bool{}
	texts := []string{""}
	for length := 0; length <= 5; length++ {
		var longer []string
		for _, text := range texts {
			if c, ok := impl.ReadCode(text); ok {
				again, _ := impl.CodeText(c)
				wantText(t, "CodeText of ReadCode", again, text)
				read["code "+text] = true
			}
			if p, ok := impl.ReadParity(text); ok {
				again, _ := impl.ParityText(p)
				wantText(t, "ParityText of ReadParity", again, text)
				read["parity "+text] = true
			}
			for _, sign := range []string{"0", "1", "2", "3", ",", ";", "-", " "} {
				longer = append(longer, text+sign)
			}
		}
		texts = longer
	}
	for _, text := range []string{"code 1", "code 32", "code 2,1", "code 31,13", "code 3,2,1", "parity 1;1", "parity 2;3", "parity 2;1,3", "parity 3;2,3", "parity 13;32"} {
		wantBool(t, text+" is read", read[text], true)
	}
}
