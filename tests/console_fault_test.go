package tests

import (
	"slices"
	"strings"
	"testing"
)

// faultyLines are at fault behind a view and an event, in one way each.
func faultyLines() []string {
	return []string{
		"\x1f", "# \x7f", "# 2 3 4 5 6 7 8 9 10 11", "#" + strings.Repeat("a", 600), "view 2", "view", "put 1 k", "get 1", "put 7 k v", "get 0 k", "get 1 " + strings.Repeat("k", 13),
		"deliver -1", "drop", "copy 1 1", "adopt 7", "fall 01", "Fall 1", "other",
	}
}

// Of several lines at fault the first one counts, whatever each is.
func TestFirstFaultCounts(t *testing.T) {
	for _, first := range faultyLines() {
		for _, second := range faultyLines() {
			lines := []string{"view 1", "fall 2", "get 1 k", "fall 3", "fall 4", "fall 5"}
			for one := 2; one <= 5; one++ {
				own := slices.Clone(lines)
				own[one] = first
				for other := one + 1; other <= 5; other++ {
					both := slices.Clone(own)
					both[other] = second
					wantFault(t, "two lines at fault", textOf(both...), one+1)
				}
				wantFault(t, "one line at fault", textOf(own...), one+1)
			}
		}
	}
}

// Lines that are passed over are lines, and are counted.
func TestFaultCountsPassedLines(t *testing.T) {
	for _, passed := range []string{"", " ", "#", "# view 1", strings.Repeat(" ", 30)} {
		for count := range 30 {
			ahead := slices.Repeat([]string{passed}, count)
			text := textOf(ahead...)
			wantFault(t, "ahead of all", text+"view 0\n", count+1)
			wantFault(t, "behind a view", "view 1\n"+text+"fall 0\n", count+2)
			wantFault(t, "on both sides", text+"view 1\n"+text+"fall 1\n"+text+"view 1", 3*count+3)
			wantFault(t, "ahead of an event without a view", text+"fall 1\n", count+1)
		}
	}
}

// Without any view the fault is 1, or the line of one that is at fault.
func TestFaultWithoutView(t *testing.T) {
	for _, text := range []string{"", "\n", "\n\n\n", "# view 1\n", "#\n#\n#\n", "  \n # \n\n", strings.Repeat("\n", 100), strings.Repeat("# a\n", 100)} {
		wantFault(t, "no view", text, 1)
	}
	for _, line := range append(faultyLines(), "fall 1", "get 1 k", "deliver 0") {
		if line == "view 2" {
			continue
		}
		wantFault(t, "no view, and a line at fault", line, 1)
		wantFault(t, "no view, and a line at fault", "\n#\n"+line, 3)
		wantFault(t, "no view, and a line at fault", "#\n"+line+"\n#\nview 1\n", 2)
	}
}

// stuffed are lines that are passed over, behind others, until the text has so many bytes and as few lines as may be.
func stuffed(text string, length int) string {
	for length-len(text) > 600 {
		text += "#" + strings.Repeat("a", 500) + "\n"
	}
	return text + "#" + strings.Repeat("b", length-len(text)-2) + "\n"
}

// As many bytes as may be, and one more.
func TestScriptOfMaxScript(t *testing.T) {
	views := [][]int{{1, 2}}
	for _, text := range []string{"view 1,2\nfall 2\n", "# a\n\nview 1,2\nfall 2\n"} {
		most := stuffed(text, 4000)
		if len(most) != 4000 || strings.Count(most, "\n") > 20 {
			t.Fatalf("there are %d bytes in %d lines", len(most), strings.Count(most, "\n"))
		}
		wantRead(t, "a byte less", stuffed(text, 3999), views, fallBy(2))
		wantRead(t, "MaxScript bytes", most, views, fallBy(2))
		wantRead(t, "MaxScript bytes, the last line without an end", stuffed(text, 4001)[:4000], views, fallBy(2))
		for _, more := range []string{"\n", " ", "#", "f", "\xff", "\x00"} {
			wantFault(t, "a byte more", most+more, -1)
			wantFault(t, "a byte more ahead", more+most, -1)
		}
		wantFault(t, "many bytes more", stuffed(text, 5000), -1)
	}
	wantFault(t, "very many bytes", strings.Repeat("view 1\n", 3000000), -1)
	wantFault(t, "very many bytes in one line", strings.Repeat("a", 30000000), -1)
	// At the limit a text may have one line alone, which is too long for PartsOf, or lines enough for all.
	wantFault(t, "one line of MaxScript bytes", strings.Repeat("#", 4000), 1)
	wantFault(t, "one line more than MaxScript bytes", strings.Repeat("#", 4001), -1)
	// A byte is not a rune.
	wantFault(t, "MaxScript bytes, in half as many runes", strings.Repeat("é", 2000), 1)
	wantFault(t, "half as many runes and one more", strings.Repeat("é", 2001), -1)
}

// As many lines as may be, and one more.
func TestScriptOfMaxLines(t *testing.T) {
	views := [][]int{{1, 2}}
	for _, passed := range []string{"", "#", " # a "} {
		for ahead := range 98 {
			lines := slices.Concat(slices.Repeat([]string{passed}, ahead), []string{"view 1,2", "fall 2"}, slices.Repeat([]string{passed}, 98-ahead))
			text := textOf(lines...)
			if len(lines) != 100 {
				t.Fatalf("there are %d lines", len(lines))
			}
			wantRead(t, "MaxLines lines", text, views, fallBy(2))
			wantRead(t, "MaxLines lines, the last one without an end", text[:len(text)-len(passed)-1]+"# b", views, fallBy(2))
			wantFault(t, "a line more", text+"\n", -1)
			wantFault(t, "a line more without an end", text+" ", -1)
			wantFault(t, "a line more ahead", "\n"+text, -1)
		}
	}
	// The last line counts, with its byte 10 and without.
	hundred := "view 1,2\n" + strings.Repeat("\n", 98)
	wantRead(t, "MaxLines lines", hundred+"fall 2\n", views, fallBy(2))
	wantRead(t, "MaxLines lines, the last one without an end", hundred+"fall 2", views, fallBy(2))
	wantRead(t, "a line less", hundred, views)
	wantFault(t, "a line more", hundred+"fall 2\nfall 2\n", -1)
	wantFault(t, "a line more, without an end", hundred+"fall 2\nfall 2", -1)
	wantFault(t, "a line of blanks more", hundred+"\n ", -1)
	wantFault(t, "the last line at fault", hundred+"fall 7", 100)
	wantFault(t, "the last line at fault", hundred+"fall 7\n", 100)
	wantFault(t, "lines of nothing", strings.Repeat("\n", 100), 1)
	wantFault(t, "lines of nothing and one more", strings.Repeat("\n", 101), -1)
	wantFault(t, "lines of nothing and blanks", strings.Repeat("\n", 100)+" ", -1)
	wantFault(t, "a fault in so many lines", strings.Repeat("\n", 99)+"view 0", 100)
}

// What is too much is told ahead of every other fault.
func TestTooMuchComesFirst(t *testing.T) {
	for _, line := range append(faultyLines(), "", "fall 1", "view 0") {
		for _, text := range []string{line + "\n", "view 1\nfall 1\n" + line + "\n"} {
			wantFault(t, "too many bytes", stuffed(text, 4001), -1)
			wantFault(t, "too many lines", text+strings.Repeat("\n", 100), -1)
			wantFault(t, "too many lines", strings.Repeat("\n", 100)+text, -1)
			wantFault(t, "too many of both", strings.Repeat("#23456789 123456789 123456789 123456789\n", 101)+text, -1)
			wantFault(t, "many lines at fault", strings.Repeat("no\n", 101)+text, -1)
			wantFault(t, "many bytes at fault", strings.Repeat("\xff", 4001)+text, -1)
		}
	}
}
