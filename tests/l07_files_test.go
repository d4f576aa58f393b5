package tests

import (
	"encoding/binary"
	"fmt"
	"math"
	"slices"
	"strings"
	"testing"

	"loop.example/g01364/impl"
)

func saved(name, digits string, soft ...float32) impl.Saved {
	return impl.Saved{Name: name, Bits: bools(digits), Soft: soft}
}

// savedText tells one that is saved.
func savedText(s impl.Saved) string {
	return fmt.Sprintf("%q:%s:%s", s.Name, digitsOf(s.Bits), hex(s.Soft...))
}

func toldSaved(s impl.Saved, ok bool) string {
	return outcome(savedText(s), s.Name == "" && len(s.Bits) == 0 && len(s.Soft) == 0, ok)
}

func toldRecovered(list []impl.Saved, length int64, ok bool) string {
	if !ok {
		return "no"
	}
	texts := []string{fmt.Sprint(length)}
	for _, s := range list {
		texts = append(texts, savedText(s))
	}
	return strings.Join(texts, " ")
}

func someSaved() []impl.Saved {
	return []impl.Saved{
		saved("a", "101", 1.5), saved("a", ""), saved("abcdefgh", ""), saved("z", "1"), saved("zz", "0"), saved("bits", "11111111"), saved("bits", "000000001"), saved("nine", "111111110"), saved("az", ones(160)), saved("za", zeros(159)), saved("soft", "", repeatedNumbers(-1, 160)...), saved("both", strings.Repeat("01", 80), repeatedNumbers(most(), 160)...),
		saved("zeros", "", 0, num(minusZero)), saved("small", "01", num(least), num(0x80000001), num(lastSub)), saved("great", "0011", most(), -most(), 0.1), saved("mark", "10101010", num(0x31544653)),
	}
}

// notSaved are not valid.
func notSaved() []impl.Saved {
	list := []impl.Saved{{}, saved("", "101", 1), saved("abcdefghi", ""), saved(strings.Repeat("a", 256), ""), saved(strings.Repeat("a", 257), "1"), saved(strings.Repeat("a", 100000), ""), saved("A", ""), saved("a1", ""), saved("a ", ""), saved(" a", ""), saved("`", ""), saved("{", ""), saved("é", ""), saved("a\x00", ""), saved("a\xff", ""), saved("\n", ""), saved("a", ones(161)), saved("a", zeros(162)), saved("a", zeros(256)), saved("a", zeros(257)), saved("a", zeros(100000))}
	for _, soft := range notSoft() {
		list = append(list, saved("a", "1", soft...))
	}
	return list
}

// stored returns the bytes of something valid.
func stored(t *testing.T, s impl.Saved) string {
	t.Helper()
	bytes, ok := impl.StoreSaved(s)
	wantBool(t, "StoreSaved succeeds", ok, true)
	return bytes
}

// checked returns bytes with their check number behind them.
func checked(bytes string) string {
	check := 0
	for i := range len(bytes) {
		check = (929*check + int(bytes[i]) + 193) % 65003
	}
	return bytes + string([]byte{byte(check), byte(check >> 8)})
}

// bytesAsTold returns the bytes of something as the document tells them.
func bytesAsTold(s impl.Saved) string {
	bytes := append([]byte("SFT1"), byte(len(s.Name)))
	bytes = append(append(bytes, s.Name...), byte(len(s.Bits)))
	padded := digitsOf(s.Bits) + zeros((8-len(s.Bits)%8)%8)
	for eight := range slices.Chunk([]byte(padded), 8) {
		slices.Reverse(eight)
		value := 0
		for _, digit := range eight {
			value = 2*value + int(digit-'0')
		}
		bytes = append(bytes, byte(value))
	}
	bytes = append(bytes, byte(len(s.Soft)))
	for _, x := range s.Soft {
		bytes = binary.LittleEndian.AppendUint32(bytes, math.Float32bits(x))
	}
	return checked(string(bytes))
}

func TestPromise8ValidSaved(t *testing.T) {
	for _, s := range someSaved() {
		wantBool(t, "ValidSaved "+savedText(s), impl.ValidSaved(s), true)
	}
	for _, s := range notSaved() {
		what := fmt.Sprint(" ", len(s.Name), len(s.Bits), s.Soft)
		wantBool(t, "ValidSaved"+what, impl.ValidSaved(s), false)
		wantText(t, "StoreSaved"+what, toldText(impl.StoreSaved(s)), "no")
		wantText(t, "StoreAll"+what, toldText(impl.StoreAll([]impl.Saved{s})), "no")
		wantText(t, "StoreAll"+what, toldText(impl.StoreAll([]impl.Saved{saved("a", "1"), s, saved("b", "")})), "no")
	}
}

func TestPromise8SameSaved(t *testing.T) {
	all := append(someSaved(), notSaved()...)
	var texts []string
	for _, s := range all {
		texts = append(texts, savedText(s))
	}
	for i, a := range all {
		for j, b := range all {
			wantBool(t, fmt.Sprint("SameSaved ", i, j), impl.SameSaved([]impl.Saved{a}, []impl.Saved{b}), texts[i] == texts[j])
		}
	}
	one, two := saved("a", "10", 1, 2), saved("b", "", -1)
	list := func(list ...impl.Saved) []impl.Saved { return list }
	cases := []struct {
		a, b []impl.Saved
		same bool
	}{
		{nil, nil, true}, {nil, list(), true}, {list(one), nil, false}, {nil, list(impl.Saved{}), false}, {list(impl.Saved{}), list(saved("", "")), true}, {list(one, two), list(one, two), true}, {list(one, two), list(two, one), false}, {list(one, two), list(one), false}, {list(one), list(one, two), false}, {list(one, one), list(one, two), false}, {list(two, one), list(one, one), false}, {list(all...), list(all...), true}, {slices.Repeat(list(one), 20), slices.Repeat(list(one), 20), true},
		{list(saved("a", "", 0)), list(saved("a", "", num(minusZero))), false}, {list(saved("a", "", num(noNumber))), list(saved("a", "", num(0xffffffff))), true}, {list(saved("a", "", num(plusInf))), list(saved("a", "", num(minusInf))), false}, {list(saved("a", "", 1, 2)), list(saved("a", "", 2, 1)), false}, {list(saved("a", "", 1, 2)), list(saved("a", "", 1)), false}, {list(saved("a", "01")), list(saved("a", "10")), false}, {list(saved("a", "0")), list(saved("a", "00")), false}, {list(saved("a", "")), list(saved("a", "0")), false}, {list(saved("a", "1")), list(saved("b", "1")), false}, {list(saved("a", "")), list(saved("a", "", 0)), false},
	}
	for i, c := range cases {
		wantBool(t, fmt.Sprint("SameSaved of lists ", i), impl.SameSaved(c.a, c.b), c.same)
	}
}

func TestPromise8StoreSaved(t *testing.T) {
	cases := []struct {
		s    impl.Saved
		want string
	}{
		{saved("a", "101", 1.5), "SFT1\x01a\x03\x05\x01\x00\x00\xc0\x3f"}, {saved("a", ""), "SFT1\x01a\x00\x00"}, {saved("abcdefgh", ""), "SFT1\x08abcdefgh\x00\x00"}, {saved("b", "00000001"), "SFT1\x01b\x08\x80\x00"}, {saved("b", "000000001"), "SFT1\x01b\x09\x00\x01\x00"}, {saved("b", "1100000010"), "SFT1\x01b\x0a\x03\x01\x00"}, {saved("xy", "", 0, num(minusZero), -2), "SFT1\x02xy\x00\x03\x00\x00\x00\x00\x00\x00\x00\x80\x00\x00\x00\xc0"}, {saved("xy", ones(160)), "SFT1\x02xy\xa0" + strings.Repeat("\xff", 20) + "\x00"}, {saved("xy", ones(159)), "SFT1\x02xy\x9f" + strings.Repeat("\xff", 19) + "\x7f\x00"}, {saved("q", "1", repeatedNumbers(num(0x12345678), 160)...), "SFT1\x01q\x01\x01\xa0" + strings.Repeat("\x78\x56\x34\x12", 160)},
	}
	for _, c := range cases {
		wantText(t, "StoreSaved "+savedText(c.s), toldText(impl.StoreSaved(c.s)), toldText(checked(c.want), true))
	}
	wantText(t, "StoreSaved with its check number", stored(t, saved("a", "")), "SFT1\x01a\x00\x00\xb4\xf7")
	for _, s := range someSaved() {
		wantText(t, "StoreSaved "+savedText(s), stored(t, s), bytesAsTold(s))
	}
	d := &drawn{100}
	for i := range 500 {
		s := d.saved(i%161, i*7%161)
		wantText(t, "StoreSaved "+savedText(s), stored(t, s), bytesAsTold(s))
	}
}

// saved returns something valid with as many bits and soft numbers.
func (d *drawn) saved(bits, soft int) impl.Saved {
	name := ""
	for range 1 + d.below(8) {
		name += string(rune('a' + d.below(26)))
	}
	return impl.Saved{Name: name, Bits: d.bits(bits), Soft: d.soft(soft)}
}

func TestPromise8LoadedAsStored(t *testing.T) {
	d := &drawn{101}
	all := someSaved()
	for i := range 500 {
		all = append(all, d.saved(i%161, i*7%161))
	}
	for _, s := range all {
		back, ok := impl.LoadSaved(stored(t, s))
		wantText(t, "LoadSaved of what was stored", toldSaved(back, ok), savedText(s))
		wantBool(t, "SameSaved of what was loaded", impl.SameSaved([]impl.Saved{back}, []impl.Saved{s}), true)
	}
}

func TestPromise8LoadSavedTakesNothingElse(t *testing.T) {
	valid := checked("SFT1\x02ab\x0b\x01\x02\x01\x00\x00\x80\x3f")
	wantText(t, "LoadSaved", toldSaved(impl.LoadSaved(valid)), `"ab":10000000010:3f800000`)
	cases := []string{
		"", "S", "SFT1", "\x00", "SFT", "sft1" + valid[4:], "SFT2" + valid[4:], valid + "\x00", valid + valid, "S" + valid, valid[1:], strings.Repeat("\xff", 1000), strings.Repeat("\x00", 100000), strings.Repeat("SFT1", 10000),
		checked("SFT2\x02ab\x0b\x01\x02\x00"), checked("sft1\x02ab\x0b\x01\x02\x00"), checked("\x00\x00\x00\x00\x02ab\x0b\x01\x02\x00"), checked(""), checked("SFT1"), checked("SFT1\x00"), checked("SFT1\x01"), checked("SFT1\x01a"), checked("SFT1\x01a\x00"), checked("SFT1\x01a\x01\x00"),
		// The Name is none.
		checked("SFT1\x00\x00\x00"), checked("SFT1\x09abcdefghi\x00\x00"), checked("SFT1\x01A\x00\x00"), checked("SFT1\x02a1\x00\x00"), checked("SFT1\x02a\x00\x00\x00"), checked("SFT1\x03é\x00\x00"), checked("SFT1\xff" + strings.Repeat("a", 255) + "\x00\x00"),
		// Digits are missing that are not 0.
		checked("SFT1\x01a\x01\x02\x00"), checked("SFT1\x01a\x01\x03\x00"), checked("SFT1\x01a\x07\x80\x00"), checked("SFT1\x01a\x07\xff\x00"), checked("SFT1\x01a\x09\xff\x02\x00"), checked("SFT1\x01a\x0b\x00\x08\x00"),
		// There are too many, or too few bytes for them.
		checked("SFT1\x01a\xa1" + strings.Repeat("\x00", 21) + "\x00"), checked("SFT1\x01a\xff" + strings.Repeat("\x00", 32) + "\x00"), checked("SFT1\x01a\x00\xa1" + strings.Repeat("\x00", 4*161)), checked("SFT1\x01a\x00\xff" + strings.Repeat("\x00", 4*255)), checked("SFT1\x01a\x10\x00\x00"), checked("SFT1\x01a\x00\x01\x00\x00\x00"), checked("SFT1\x01a\x00\x00\x00"), checked("SFT1\x01a\x00\x01\x00\x00\x00\x00\x00"), checked("SFT1\x01a\x08\x00\x00\x00"),
		// The numbers are not finite.
		checked("SFT1\x01a\x00\x01\x00\x00\x80\x7f"), checked("SFT1\x01a\x00\x01\x00\x00\x80\xff"), checked("SFT1\x01a\x00\x01\x00\x00\xc0\x7f"), checked("SFT1\x01a\x00\x01\x01\x00\x80\x7f"), checked("SFT1\x01a\x00\x02\x00\x00\x80\x3f\xff\xff\xff\xff"),
	}
	for _, s := range cases {
		wantText(t, fmt.Sprintf("LoadSaved %q", s), toldSaved(impl.LoadSaved(s)), "no")
		wantText(t, fmt.Sprintf("LoadSaved %q", s+s), toldSaved(impl.LoadSaved(s+s)), "no")
	}
	for cut := range len(valid) {
		wantText(t, fmt.Sprint("LoadSaved cut at ", cut), toldSaved(impl.LoadSaved(valid[:cut])), "no")
		wantText(t, fmt.Sprint("LoadSaved without byte ", cut), toldSaved(impl.LoadSaved(valid[:cut]+valid[cut+1:])), "no")
		for change := 1; change < 256; change++ {
			bytes := []byte(valid)
			bytes[cut] ^= byte(change)
			wantText(t, fmt.Sprintf("LoadSaved with another byte %d: %q", cut, bytes), toldSaved(impl.LoadSaved(string(bytes))), "no")
		}
	}
	for end := range 256 {
		wantText(t, fmt.Sprint("LoadSaved with a byte behind it ", end), toldSaved(impl.LoadSaved(valid+string([]byte{byte(end)}))), "no")
	}
}

func TestPromise8StoreAll(t *testing.T) {
	all := someSaved()
	var bytes []string
	for _, s := range all {
		bytes = append(bytes, bytesAsTold(s))
	}
	for count := range len(all) + 1 {
		want := toldText(strings.Join(bytes[:count], ""), true)
		if count > 8 {
			want = "no"
		}
		wantText(t, fmt.Sprint("StoreAll of ", count), toldText(impl.StoreAll(all[:count])), want)
		got, length, ok := impl.RecoverAll(strings.Join(bytes[:count], ""))
		most := min(count, 8)
		wantBool(t, fmt.Sprint("RecoverAll of ", count), ok && impl.SameSaved(got, all[:most]), true)
		wantInt(t, fmt.Sprint("RecoverAll of ", count), length, int64(len(strings.Join(bytes[:most], ""))))
	}
	wantText(t, "StoreAll of none", toldText(impl.StoreAll(nil)), `""`)
	wantText(t, "StoreAll of many", toldText(impl.StoreAll(slices.Repeat(all[:1], 10000))), "no")
	wantText(t, "StoreAll of 8 and one that is not valid", toldText(impl.StoreAll(append(slices.Clone(all[:7]), impl.Saved{}))), "no")
	wantText(t, "StoreAll of equal ones", toldText(impl.StoreAll(slices.Repeat(all[:1], 8))), toldText(strings.Repeat(bytes[0], 8), true))
}

// Of bytes that are cut or changed at a place, those that are stored before it are recovered.
func TestPromise8RecoverAll(t *testing.T) {
	list := []impl.Saved{saved("a", "101", 1.5), saved("bcd", ""), saved("e", "", 0, num(minusZero)), saved("fgh", "00000000111")}
	whole, _ := impl.StoreAll(list)
	wants, texts := make([]string, len(whole)+1), []string{"0"}
	place := 0
	for _, s := range list {
		for range len(bytesAsTold(s)) {
			wants[place] = strings.Join(texts, " ")
			place++
		}
		texts[0] = fmt.Sprint(place)
		texts = append(texts, savedText(s))
	}
	wants[place] = strings.Join(texts, " ")
	for cut, want := range wants {
		wantText(t, fmt.Sprint("RecoverAll cut at ", cut), toldRecovered(impl.RecoverAll(whole[:cut])), want)
	}
	for place := range len(whole) {
		for change := 1; change < 256; change += 1 + place%3 {
			bytes := []byte(whole)
			bytes[place] ^= byte(change)
			wantText(t, fmt.Sprint("RecoverAll with another byte at ", place), toldRecovered(impl.RecoverAll(string(bytes))), wants[place])
		}
	}
	for _, end := range []string{"\x00", "S", "SFT1", "SFT1\x01a", "\xff\xff", "?", strings.Repeat("SFT1", 10000), whole[:len(whole)-1][15:], checked("SFT1\x01a\x01\x02\x00"), checked("SFT1\x00\x00\x00"), checked("SFT1\x01a\x00\x01\x00\x00\x80\x7f"), checked("SFT2\x01a\x00\x00")} {
		wantText(t, fmt.Sprintf("RecoverAll of %q", end), toldRecovered(impl.RecoverAll(end)), recoveredAlone(end))
		want, length, _ := impl.RecoverAll(whole + end)
		wantBool(t, fmt.Sprintf("RecoverAll with %q behind", end), impl.SameSaved(want[:4], list) && length >= int64(len(whole)), true)
	}
	for _, none := range []string{"", "\x00", "x", "SFT1", strings.Repeat("\x00", 100000), whole[1:15], "x" + whole} {
		wantText(t, fmt.Sprintf("RecoverAll of %q", none), toldRecovered(impl.RecoverAll(none)), "0")
	}
}

// recoveredAlone loads beginnings of bytes, as long as there are some.
func recoveredAlone(bytes string) string {
	texts, place := []string{""}, 0
	for end := 0; end <= min(len(bytes), 1000) && len(texts) <= 8; end++ {
		if end < place {
			continue
		}
		if s, ok := impl.LoadSaved(bytes[place:end]); ok {
			texts, place = append(texts, savedText(s)), end
		}
	}
	texts[0] = fmt.Sprint(place)
	return strings.Join(texts, " ")
}
