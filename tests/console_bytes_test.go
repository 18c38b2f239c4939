package tests

import (
	"slices"
	"strings"
	"testing"
	"unicode/utf8"
)

// oddPieces are bytes that a line can't have: such as are no runes, or only the beginning of one, or runes that are near the byte 10.
func oddPieces() []string {
	return []string{
		"\x80", "\xc3", "\xe2", "\xe2\x82", "\xf0", "\xf0\x9f", "\xf0\x9f\x98", "\xfe", "\xff", "\xbf\xbf", "\xed\xa0\x80", "\xf4\x90\x80\x80",
		// The byte 10 in forms that are too long, and runes whose lowest byte is 10.
		"\xc0\x8a", "\xe0\x80\x8a", "\xf0\x80\x80\x8a", "\u010a", "\u0a0a", "\U0001f60a", "\U0010ff0a",
		"é", "…", "😊", "\ufffd", "\ufeff", "\u0085", "\u2028", "\u2029", "\u00a0",
		"\x00", "\x01", "\t", "\v", "\f", "\r", "\x1b", "\x1f", "\x7f",
	}
}

// Whatever stands in a line, the next one begins behind a byte 10, and nowhere else.
func TestScriptLinesOfAnyBytes(t *testing.T) {
	for _, odd := range oddPieces() {
		for _, line := range []string{odd, "#" + odd, "# a " + odd, odd + "view 1", "view 1" + odd, odd + odd} {
			for _, end := range []string{"", "\n", "\nfall 1", "\n\n" + odd} {
				for ahead := range 4 {
					wantFault(t, "a line of any bytes", "view 1\n"+strings.Repeat("fall 2\n", ahead)+line+end, ahead+2)
				}
				wantFault(t, "a line of any bytes, ahead of all", line+end, 1)
			}
			wantFault(t, "MaxLines lines of any bytes", strings.Repeat(line+"\n", 100), 1)
			wantFault(t, "MaxLines lines of any bytes, the last one without an end", strings.TrimSuffix(strings.Repeat(line+"\n", 100), "\n"), 1)
			wantFault(t, "a line more", strings.Repeat(line+"\n", 101), -1)
			wantFault(t, "a line more, without an end", strings.Repeat(line+"\n", 100)+line, -1)
			wantFault(t, "MaxLines lines, a fault in the last one", "view 1\n"+strings.Repeat("\n", 98)+line, 100)
		}
		wantFault(t, "many in one line", strings.Repeat(odd, 4000/len(odd)), 1)
		wantFault(t, "many in one line behind a view", "view 1\n"+strings.Repeat(odd, 3993/len(odd)), 2)
		wantFault(t, "too many", strings.Repeat(odd, 4000/len(odd)+1), -1)
	}
}

// Each byte, alone and put at each place of a script, or in place of what stands there.
func TestScriptWithEachByte(t *testing.T) {
	text := "# a\nview 1,2\nview 2\nput 1 k v\ndeliver 0\n\n adopt 2 \nget 2 k\nfall 1"
	for b := range 256 {
		one := string([]byte{byte(b)})
		readScript(t, one)
		for at := range len(text) + 1 {
			readScript(t, text[:at]+one+text[at:])
			console(t, text[:at]+one+text[at:])
			if at < len(text) {
				readScript(t, text[:at]+one+text[at+1:])
			}
		}
	}
	// Each beginning of it, and each end.
	for at := range len(text) {
		console(t, text[:at])
		console(t, text[at:])
	}
}

// Every text of up to two bytes.
func TestScriptOfFewBytes(t *testing.T) {
	for first := range 256 {
		wantFault(t, "one byte", string([]byte{byte(first)}), 1)
		for second := range 256 {
			text := string([]byte{byte(first), byte(second)})
			want := 1
			if first == '\n' && !strings.Contains("\n #", text[1:]) {
				want = 2
			}
			wantFault(t, "two bytes", text, want)
		}
	}
}

// drawnScript is put together of pieces of scripts and of others, with no look at what comes of it.
func (d *draws) drawnScript() string {
	pieces := []string{
		"view 1\n", "view 1,2\n", "view ", "put ", "get ", "deliver ", "drop ", "copy ", "adopt ", "fall ", "1 ", "2 ", "6 ", "7 ", "0 ", "1,2", "k ", "v ", "\n", "\n", "\n", "\n", " ", "#", "# a\n", "\n#",
		"put 1 k v\n", "get 1 k\n", "deliver 0\n", "adopt 2\n", "fall 1\n", "put 2 #k #v", "1000000000", ",",
	}
	odd := oddPieces()
	text := ""
	if d.below(4) > 0 {
		text = "view 1,2\nview 2\n"
	}
	for range d.below(40) {
		if d.below(60) == 0 {
			text += odd[d.below(len(odd))]
		} else {
			text += pieces[d.below(len(pieces))]
		}
	}
	return text
}

func TestScriptsOfAnyPieces(t *testing.T) {
	faults, broken := map[int]int{}, 0
	for seed := range 60000 {
		text := newDraws(seed).drawnScript()
		_, _, fault := readScript(t, text)
		console(t, text)
		faults[min(fault, 10)]++
		if !utf8.ValidString(text) {
			broken++
		}
	}
	for fault := range 11 {
		if faults[fault] < 80 {
			t.Errorf("only %d scripts have the fault %d", faults[fault], fault)
		}
	}
	if broken < 2000 {
		t.Errorf("only %d texts have bytes that are no runes", broken)
	}
}

// Texts of drawn bytes, most of them with many a byte 10, and of any length up to what is too much.
func TestScriptsOfAnyBytes(t *testing.T) {
	tooMuch := 0
	for seed := range 6000 {
		d := newDraws(seed)
		text := drawnText(d.below(100), seed)
		if seed%10 == 0 {
			text = drawnText(d.below(4200), seed)
		}
		few := []byte(text)
		for at := range few {
			if d.below(5) == 0 && seed%3 > 0 {
				few[at] = []byte("\n\n# \n1")[d.below(6)]
			}
		}
		_, _, fault := readScript(t, string(few))
		console(t, string(few))
		if fault == -1 {
			tooMuch++
		}
		// Behind a view, and ahead of one.
		readScript(t, "view 1\n"+string(few))
		readScript(t, string(few)+"\nview 1\n")
	}
	if tooMuch < 100 {
		t.Errorf("only %d texts were too much", tooMuch)
	}
}

// Scripts to which one line is put that has such bytes.
func TestScriptsWithOneLineOfAnyBytes(t *testing.T) {
	odd := oddPieces()
	for seed := range 2000 {
		d := newDraws(seed)
		views, events := toldLife(d.below(60), seed)
		lines := linesOfLife(views, events)
		at := d.below(len(lines) + 1)
		line := d.passed() + odd[d.below(len(odd))]
		wantFault(t, "a line of any bytes among others", textOf(slices.Insert(lines, at, line)...), at+1)
	}
}
