package tests

import (
	"math"
	"slices"
	"strconv"
	"strings"
	"testing"
	"unsafe"

	"loop.example/g00180/impl"
)

// numbersToTry has every number that is near a change of length, in bytes or in figures, and both ends.
func numbersToTry() []int {
	list := []int{0, 1, 300, 20000, 123456789, impl.MaxNumber - 1, impl.MaxNumber}
	for edge := 128; edge <= impl.MaxNumber; edge *= 128 {
		list = append(list, edge-1, edge, edge+1)
	}
	for edge := 10; edge < impl.MaxNumber; edge *= 10 {
		list = append(list, edge-1, edge, edge+1)
	}
	for n := 0; n <= impl.MaxNumber; n += 999983 {
		list = append(list, n)
	}
	return list
}

// textsToTry has texts of every kind of length up to MaxText, with all bytes in them.
func textsToTry() []string {
	all := make([]byte, impl.MaxText)
	for i := range all {
		all[i] = byte(i*7 + i/256)
	}
	list := []string{"\x00", "\x80\x00", "\xff\xff", "café", "0f"}
	for _, length := range []int{0, 1, 2, 127, 128, 129, 255, 256, 16383, 16384, impl.MaxText - 1, impl.MaxText} {
		list = append(list, string(all[:length]))
	}
	return list
}

func wantNoVar(t *testing.T, text string, at int) {
	t.Helper()
	if n, next, ok := impl.ReadVar(text, at); n != 0 || next != 0 || ok {
		t.Errorf("ReadVar(%q, %d) = %d, %d, %v; want 0, 0, false", text, at, n, next, ok)
	}
}

func wantNoShort(t *testing.T, text string, at int) {
	t.Helper()
	if s, next, ok := impl.ReadShort(text, at); s != "" || next != 0 || ok {
		t.Errorf("ReadShort of %d bytes at %d = %d bytes, %d, %v; want none, 0, false", len(text), at, len(s), next, ok)
	}
}

func wantNoUnhex(t *testing.T, text string) {
	t.Helper()
	if s, ok := impl.Unhex(text); s != "" || ok {
		t.Errorf("Unhex of %d bytes (%.20q) = %.20q, %v; want none, false", len(text), text, s, ok)
	}
}

func wantNoDecimal(t *testing.T, text string) {
	t.Helper()
	if n, ok := impl.ReadDecimal(text); n != 0 || ok {
		t.Errorf("ReadDecimal(%.40q) = %d, %v; want 0, false", text, n, ok)
	}
}

func wantParts(t *testing.T, line string, want ...string) {
	t.Helper()
	if parts, ok := impl.PartsOf(line); !ok || !slices.Equal(parts, want) {
		t.Errorf("PartsOf(%.40q) = %q, %v; want %q, true", line, parts, ok, want)
	}
}

func wantNoParts(t *testing.T, line string) {
	t.Helper()
	if parts, ok := impl.PartsOf(line); len(parts) != 0 || ok {
		t.Errorf("PartsOf(%.40q) = %q, %v; want none, false", line, parts, ok)
	}
}

func TestLimitsOfWords(t *testing.T) {
	if impl.MaxText != 20000 || impl.MaxNumber != 1000000000 || impl.MaxWords != 600 || impl.MaxParts != 10 {
		t.Error("a limit is not the document's")
	}
}

func TestVarTextForms(t *testing.T) {
	forms := []struct {
		n    int
		text string
	}{
		{0, "\x00"}, {1, "\x01"}, {127, "\x7f"}, {128, "\x80\x01"}, {255, "\xff\x01"}, {300, "\xac\x02"},
		{16383, "\xff\x7f"}, {16384, "\x80\x80\x01"}, {2097151, "\xff\xff\x7f"}, {2097152, "\x80\x80\x80\x01"},
		{268435455, "\xff\xff\xff\x7f"}, {268435456, "\x80\x80\x80\x80\x01"}, {impl.MaxNumber, "\x80\x94\xeb\xdc\x03"},
	}
	for _, f := range forms {
		if text, ok := impl.VarText(f.n); text != f.text || !ok {
			t.Errorf("VarText(%d) = %q, %v; want %q, true", f.n, text, ok, f.text)
		}
		if n, next, ok := impl.ReadVar(f.text, 0); n != f.n || next != len(f.text) || !ok {
			t.Errorf("ReadVar(%q, 0) = %d, %d, %v; want %d, %d, true", f.text, n, next, ok, f.n, len(f.text))
		}
	}
}

func TestVarTextRefuses(t *testing.T) {
	for _, n := range []int{-1, -128, math.MinInt, impl.MaxNumber + 1, 1 << 32, math.MaxInt} {
		if text, ok := impl.VarText(n); text != "" || ok {
			t.Errorf("VarText(%d) = %q, %v; want none, false", n, text, ok)
		}
	}
}

func TestPromise1Numbers(t *testing.T) {
	for _, n := range numbersToTry() {
		text, ok := impl.VarText(n)
		if !ok {
			t.Fatalf("VarText(%d) is refused", n)
		}
		for _, ahead := range []string{"", "x", "\x80\x80"} {
			for _, behind := range []string{"", "\x00", "\xff"} {
				read, next, right := impl.ReadVar(ahead+text+behind, len(ahead))
				if read != n || next != len(ahead+text) || !right {
					t.Fatalf("%d behind %q and ahead of %q is read as %d, %d, %v", n, ahead, behind, read, next, right)
				}
			}
		}
		for length := range len(text) {
			wantNoVar(t, text[:length], 0)
		}
	}
}

// Every text of up to two bytes: what VarText writes of some number is read, and nothing else is.
func TestReadVarShortTexts(t *testing.T) {
	type form struct{ n, length int }
	written := map[string]form{}
	for n := range 128 * 128 {
		text, _ := impl.VarText(n)
		written[text] = form{n, len(text)}
	}
	for first := range 256 {
		one := string([]byte{byte(first)})
		for second := range 256 {
			text := one + string([]byte{byte(second)})
			want, right := written[one]
			if !right {
				want, right = written[text]
			}
			n, next, ok := impl.ReadVar(text, 0)
			if n != want.n || next != want.length || ok != right {
				t.Fatalf("ReadVar(%q, 0) = %d, %d, %v; want %d, %d, %v", text, n, next, ok, want.n, want.length, right)
			}
		}
	}
}

func TestReadVarRefuses(t *testing.T) {
	longer := []string{
		"\x80\x00", "\x81\x00", "\xff\x00", "\x80\x80\x00", "\xac\x82\x00", "\xff\xff\x80\x00", "\xff\xff\xff\xff\x00",
		"\x80\x80\x80\x80\x00", "\x80\x80\x80\x80\x80\x00", "\x80\x94\xeb\xdc\x83\x00", "\x81\x80\x80\x80\x80\x80\x80\x80\x80\x80\x00",
	}
	cutOff := []string{"", "\x80", "\xff", "\xac", "\x80\x80", "\x80\x94\xeb\xdc", "\xff\xff\xff\xff\xff"}
	tooGreat := []string{
		"\x81\x94\xeb\xdc\x03", "\x80\x94\xeb\xdc\x04", "\xff\xff\xff\xff\x03", "\xff\xff\xff\xff\x7f", "\x80\x80\x80\x80\x80\x01",
		"\x80\x80\x80\x80\x90\x01", "\x80\x80\x80\x80\x80\x80\x80\x80\x80\x01", "\x80\x80\x80\x80\x80\x80\x80\x80\x80\x02",
		strings.Repeat("\x80", 10) + "\x05", strings.Repeat("\x80", 1000) + "\x01", strings.Repeat("\xff", 1000),
	}
	for _, text := range slices.Concat(longer, cutOff, tooGreat) {
		wantNoVar(t, text, 0)
		wantNoVar(t, "\x01"+text, 1)
	}
}

func TestReadVarPlaces(t *testing.T) {
	text := "\x05\xac\x02"
	for _, at := range []int{math.MinInt, -2, -1, 3, 4, 5, math.MaxInt - 1, math.MaxInt} {
		wantNoVar(t, text, at)
		wantNoShort(t, "\x00\x00\x00", at)
	}
	for _, at := range []int{-1, 0, 1} {
		wantNoVar(t, "", at)
		wantNoShort(t, "", at)
	}
	if n, next, ok := impl.ReadVar(text, 2); n != 2 || next != 3 || !ok {
		t.Errorf("ReadVar(%q, 2) = %d, %d, %v; want 2, 3, true", text, n, next, ok)
	}
}

func TestPromise1Texts(t *testing.T) {
	for _, s := range textsToTry() {
		text, ok := impl.ShortText(s)
		length, _ := impl.VarText(len(s))
		if text != length+s || !ok {
			t.Fatalf("ShortText of %d bytes is not its length and it", len(s))
		}
		for _, behind := range []string{"", "\x00", "more"} {
			read, next, right := impl.ReadShort("\xff\x03"+text+behind, 2)
			if read != s || next != 2+len(text) || !right {
				t.Fatalf("a text of %d bytes is read as %d bytes, %d, %v", len(s), len(read), next, right)
			}
		}
		wantNoShort(t, text[:len(text)-1], 0)
	}
}

func TestShortTextForms(t *testing.T) {
	for s, want := range map[string]string{"": "\x00", "abc": "\x03abc", "\xff\x00": "\x02\xff\x00"} {
		if text, ok := impl.ShortText(s); text != want || !ok {
			t.Errorf("ShortText(%q) = %q, %v; want %q, true", s, text, ok, want)
		}
	}
	if s, next, ok := impl.ReadShort("\x02abc", 0); s != "ab" || next != 3 || !ok {
		t.Errorf("ReadShort(\"\\x02abc\", 0) = %q, %d, %v", s, next, ok)
	}
	if s, next, ok := impl.ReadShort("ab\x00", 2); s != "" || next != 3 || !ok {
		t.Errorf("ReadShort(\"ab\\x00\", 2) = %q, %d, %v", s, next, ok)
	}
}

func TestShortTextRefuses(t *testing.T) {
	for _, length := range []int{impl.MaxText + 1, 2 * impl.MaxText} {
		long := strings.Repeat("x", length)
		if text, ok := impl.ShortText(long); text != "" || ok {
			t.Errorf("ShortText of %d bytes = %d bytes, %v; want none, false", length, len(text), ok)
		}
		head, _ := impl.VarText(length)
		wantNoShort(t, head+long, 0)
	}
	greatest, _ := impl.VarText(impl.MaxNumber)
	for _, text := range []string{
		"\x01", "\x03ab", "\x7f", "\x80", "\x80\x00", "\x81\x00a", "\xff\xff\xff\xff\x7fab", greatest, greatest + "ab", "\x81\x94\xeb\xdc\x03",
	} {
		wantNoShort(t, text, 0)
		wantNoShort(t, "\x01"+text, 1)
	}
}

func TestPromise1Hex(t *testing.T) {
	for _, s := range textsToTry() {
		figures, ok := impl.Hex(s)
		if len(figures) != 2*len(s) || !ok {
			t.Fatalf("Hex of %d bytes = %d bytes, %v", len(s), len(figures), ok)
		}
		if read, right := impl.Unhex(figures); read != s || !right {
			t.Fatalf("%d bytes in figures are read as %d bytes, %v", len(s), len(read), right)
		}
	}
}

func TestHexForms(t *testing.T) {
	for s, want := range map[string]string{"": "", "\x00": "00", "\x0a\xa0": "0aa0", "\xff": "ff", "Hi~": "48697e", "\x12\x34\xcd\xef": "1234cdef"} {
		if figures, ok := impl.Hex(s); figures != want || !ok {
			t.Errorf("Hex(%q) = %q, %v; want %q, true", s, figures, ok, want)
		}
		if text, ok := impl.Unhex(want); text != s || !ok {
			t.Errorf("Unhex(%q) = %q, %v; want %q, true", want, text, ok, s)
		}
	}
}

// Every text of two bytes: what Hex writes of some byte is read, and nothing else is.
func TestUnhexPairs(t *testing.T) {
	written := map[string]int{}
	for c := range 256 {
		figures, _ := impl.Hex(string([]byte{byte(c)}))
		written[figures] = c
	}
	if len(written) != 256 {
		t.Fatal("two bytes have the same figures")
	}
	for first := range 256 {
		for second := range 256 {
			pair := string([]byte{byte(first), byte(second)})
			if c, right := written[pair]; !right {
				wantNoUnhex(t, pair)
			} else if text, ok := impl.Unhex(pair); text != string([]byte{byte(c)}) || !ok {
				t.Fatalf("Unhex(%q) = %q, %v", pair, text, ok)
			}
		}
	}
}

func TestHexRefuses(t *testing.T) {
	if figures, ok := impl.Hex(strings.Repeat("x", impl.MaxText+1)); figures != "" || ok {
		t.Errorf("Hex of MaxText and 1 bytes = %d bytes, %v; want none, false", len(figures), ok)
	}
	for _, length := range []int{2*impl.MaxText + 1, 2*impl.MaxText + 2, 4 * impl.MaxText} {
		wantNoUnhex(t, strings.Repeat("0", length))
	}
	for _, text := range []string{"0", "f", "000", "61626", "0A", "FF", "0g", "g0", "0x", " 0", "0 ", "-1", "+1", "6162 3", "6162\x00\x00", "/0", ":0", "`0", "é"} {
		wantNoUnhex(t, text)
	}
	good := strings.Repeat("ab", impl.MaxText)
	wantNoUnhex(t, good[1:])
	wantNoUnhex(t, "g"+good[1:])
	wantNoUnhex(t, good[:len(good)-1]+"g")
}

func TestPromise1Decimal(t *testing.T) {
	for _, n := range numbersToTry() {
		if read, ok := impl.ReadDecimal(impl.Decimal(n)); read != n || !ok {
			t.Fatalf("%d is read as %d, %v", n, read, ok)
		}
	}
	for n := range 2000 {
		if read, ok := impl.ReadDecimal(impl.Decimal(n)); read != n || !ok {
			t.Fatalf("%d is read as %d, %v", n, read, ok)
		}
	}
}

func TestDecimalForms(t *testing.T) {
	forms := map[int]string{
		0: "0", 7: "7", 10: "10", 105: "105", -1: "-1", -5: "-5", -10: "-10", -1200: "-1200", impl.MaxNumber: "1000000000", impl.MaxNumber + 1: "1000000001",
		-impl.MaxNumber: "-1000000000", math.MaxInt32: "2147483647", math.MinInt32: "-2147483648", math.MaxInt32 + 1: "2147483648",
		math.MaxInt: "9223372036854775807", math.MinInt: "-9223372036854775808", math.MinInt + 1: "-9223372036854775807",
	}
	for n, want := range forms {
		if text := impl.Decimal(n); text != want {
			t.Errorf("Decimal(%d) = %q; want %q", n, text, want)
		}
	}
}

func TestReadDecimalForms(t *testing.T) {
	for text, want := range map[string]int{"0": 0, "9": 9, "10": 10, "305": 305, "999999999": 999999999, "1000000000": impl.MaxNumber} {
		if n, ok := impl.ReadDecimal(text); n != want || !ok {
			t.Errorf("ReadDecimal(%q) = %d, %v; want %d, true", text, n, ok, want)
		}
	}
}

// Every text of up to three bytes out of some: a number's own figures are read, and nothing else is.
func TestReadDecimalShortTexts(t *testing.T) {
	some := "0123456789-+ .,_/:aexAF\x00\n\xff"
	texts := []string{""}
	for begin, length := 0, 1; length <= 3; length++ {
		end := len(texts)
		for _, head := range texts[begin:end] {
			for i := range len(some) {
				texts = append(texts, head+some[i:i+1])
			}
		}
		begin = end
	}
	for _, text := range texts {
		n, err := strconv.Atoi(text)
		if err != nil || n < 0 || strconv.Itoa(n) != text {
			wantNoDecimal(t, text)
		} else if read, ok := impl.ReadDecimal(text); read != n || !ok {
			t.Fatalf("ReadDecimal(%q) = %d, %v; want %d, true", text, read, ok, n)
		}
	}
}

func TestReadDecimalRefuses(t *testing.T) {
	for _, text := range []string{
		"", "00", "01", "007", "-0", "-1", "+1", "+0", " 1", "1 ", "1\n", "0x1", "1e3", "1_000", "1.0", "a", "f", "12a", "a12",
		"1000000001", "1000000010", "2000000000", "9999999999", "01000000000", "0000000001", "10000000000", "00000000000",
		"-1000000000", "4294967296", "4294967297", "9223372036854775807", "18446744073709551616", "18446744073709551617",
		"١", "１", strings.Repeat("0", 5000), strings.Repeat("9", 5000), strings.Repeat("0", 5000) + "1",
	} {
		wantNoDecimal(t, text)
	}
}

func TestPartsOf(t *testing.T) {
	wantParts(t, "")
	wantParts(t, " ")
	wantParts(t, "     ")
	wantParts(t, "a", "a")
	wantParts(t, " a", "a")
	wantParts(t, "a ", "a")
	wantParts(t, " tick  1 2 ", "tick", "1", "2")
	wantParts(t, "put 1 key val", "put", "1", "key", "val")
	wantParts(t, "   two    words   ", "two", "words")
	wantParts(t, "view 1,2,3", "view", "1,2,3")
	wantParts(t, "!~# \"'", "!~#", "\"'")
}

func TestPartsOfEachByte(t *testing.T) {
	for c := range 256 {
		one := string([]byte{byte(c)})
		switch {
		case c == 32:
			wantParts(t, one)
			wantParts(t, "a"+one+"b", "a", "b")
		case c > 32 && c <= 126:
			wantParts(t, one, one)
			wantParts(t, " a"+one+"b c", "a"+one+"b", "c")
		default:
			wantNoParts(t, one)
			wantNoParts(t, one+" a b")
			wantNoParts(t, "a "+one+" b")
			wantNoParts(t, "a b"+one)
			wantNoParts(t, strings.Repeat(" ", impl.MaxWords-1)+one)
		}
	}
	wantNoParts(t, "café")
}

func TestPartsOfLimits(t *testing.T) {
	most := strings.Repeat("x", impl.MaxWords)
	wantParts(t, most, most)
	wantNoParts(t, most+"x")
	wantNoParts(t, most+" ")
	wantNoParts(t, " "+most)
	blanks := strings.Repeat(" ", impl.MaxWords)
	wantParts(t, blanks)
	wantNoParts(t, blanks+" ")
	wantParts(t, blanks[1:]+"x", "x")
	wantParts(t, "x"+blanks[1:], "x")
	ten := strings.Fields("p1 p2 p3 p4 p5 p6 p7 p8 p9 p10")
	line := strings.Join(ten, " ")
	wantParts(t, line, ten...)
	wantParts(t, "  "+strings.Join(ten, "   ")+"  ", ten...)
	wantNoParts(t, line+" p11")
	wantNoParts(t, "p0 "+line)
	wantNoParts(t, " "+line+"  x ")
	wantNoParts(t, strings.Repeat("x ", impl.MaxWords/2))
}

// shares tells whether a piece stands in the memory of a whole.
func shares(piece, whole string) bool {
	at := uintptr(unsafe.Pointer(unsafe.StringData(piece)))
	begin := uintptr(unsafe.Pointer(unsafe.StringData(whole)))
	return at >= begin && at < begin+uintptr(len(whole))
}

func TestWordsAreNewMemory(t *testing.T) {
	whole := strings.Repeat("\x04some", 3)
	if s, _, ok := impl.ReadShort(whole, 5); !ok || shares(s, whole) {
		t.Error("ReadShort answers with memory of its argument")
	}
	line := strings.Repeat("some ", 3)
	parts, ok := impl.PartsOf(line)
	if !ok || len(parts) != 3 {
		t.Fatalf("PartsOf(%q) = %q, %v", line, parts, ok)
	}
	for _, part := range parts {
		if shares(part, line) {
			t.Error("PartsOf answers with memory of its argument")
		}
	}
	parts[0] = "other"
	wantParts(t, line, "some", "some", "some")
}
