package tests

import (
	"slices"
	"strconv"
	"strings"
	"testing"
)

func TestViewLine(t *testing.T) {
	for text, view := range map[string][]int{
		"1": {1}, "6": {6}, "1,2": {1, 2}, "2,1": {2, 1}, "3,5,4": {3, 5, 4}, "6,5,4,3": {6, 5, 4, 3}, "1,2,3,4": {1, 2, 3, 4},
	} {
		wantRead(t, "a view", "view "+text, [][]int{view})
		wantRead(t, "a view behind another one", "view 6\nview "+text+"\n", [][]int{{6}, view})
	}
}

// Numbers that ReadDecimal does not read, and those that are of no node.
func TestViewLineNumbers(t *testing.T) {
	for _, text := range []string{
		",", ",,", ",1", "1,", "1,,2", ",1,2", "1,2,", "01", "1,02", "00", "-1", "1,-2", "+1", "1,+2", "-", "+", "a", "1a", "a1", "1,b", "x,1", "0x1", "1.0", "1e0", "1;2", "1.2", "1-2", "1_2", "1,2#",
		"10000000000", "99999999999999999999", "18446744073709551617", "4294967297", "1000000001", "1,1000000001",
		"0", "7", "1,0", "7,1", "1,2,7", "1000000000", "257",
		"1,1", "1,2,1", "2,2", "1,2,3,3", "1,2,3,4,5", "1,2,3,4,5,6", "1,2,3,4,1",
	} {
		wantFault(t, "no view", "view "+text+"\n", 1)
		wantFault(t, "no view behind a right one", "view 1\nview "+text+"\n", 2)
		wantFault(t, "no view ahead of a right one", "# a\nview "+text+"\nview 1\n", 2)
	}
}

func TestViewLineParts(t *testing.T) {
	for _, line := range []string{"view", "view ", "  view", "view 1 2", "view 1,2 3", "view 1, 2", "view 1 ,2", "view 1 , 2", "view , 1", "view 1 view 2", "view 1 #", "view1", "view,1", "view1 1", "views 1", "vie 1", "v 1", "VIEW 1", "View 1", "viewview 1", "view: 1", "view= 1", "'view 1", "1", "1,2"} {
		wantFault(t, "no line of a view", line+"\n", 1)
		wantFault(t, "no line of a view", "view 1\n"+line, 2)
	}
}

// As many views as may be, and one more.
func TestViewLinesUpToMaxEpoch(t *testing.T) {
	var lines []string
	for count := 1; count <= 9; count++ {
		views := rightViews(count)
		lines = linesOfLife(views, nil)
		wantRead(t, "so many views", textOf(lines...), views)
		wantRead(t, "so many views and an event", textOf(lines...)+"adopt 6\n", views, adoptBy(6))
		wantRead(t, "the same view again", strings.Repeat("view 4,2\n", count), slices.Repeat([][]int{{4, 2}}, count))
	}
	wantFault(t, "a view more", textOf(lines...)+"view 1\n", 10)
	wantFault(t, "a view more", "\n"+textOf(lines...)+"# a\nview 1\nview 0\n", 12)
	wantFault(t, "a view more, ahead of an event", textOf(lines...)+"view 1\nfall 1\n", 10)
}

// The views are right line by line: a fault in an earlier one is its own.
func TestViewLineIsWrongWhereItStands(t *testing.T) {
	for count := 1; count <= 9; count++ {
		for at := range count {
			lines := linesOfLife(rightViews(count), nil)
			for _, wrong := range []string{"view 2,2", "view 0", "view 7", "view 1,2,3,4,5", "view"} {
				lines[at] = wrong
				wantFault(t, "a view that is wrong", textOf(lines...), at+1)
				wantFault(t, "a view that is wrong, and an event", textOf(lines...)+"fall 1\n", at+1)
			}
		}
	}
}

func TestViewLineBehindAnEvent(t *testing.T) {
	for _, e := range []event{beginPut(1, "k", "v"), beginGet(1, "k"), deliverAt(0), dropAt(0), copyAt(0), adoptBy(1), fallBy(1)} {
		wantRead(t, "a view ahead of it", textOf("view 1", "view 2", lineOfEvent(e)), [][]int{{1}, {2}}, e)
		wantFault(t, "a view behind it", textOf("view 1", lineOfEvent(e), "view 2"), 3)
		wantFault(t, "a view behind it, past a remark", textOf("view 1", lineOfEvent(e), "", "# view", "view 2", "fall 7"), 5)
		wantFault(t, "no view ahead of it", textOf(lineOfEvent(e), "view 1"), 1)
		wantFault(t, "no view ahead of it, past a remark", textOf("#", lineOfEvent(e)), 2)
	}
}

// eventForms are lines of each word, whose part N is a number, and what they tell with 3 as N.
func eventForms() map[string]event {
	return map[string]event{
		"put N k v": beginPut(3, "k", "v"), "get N k": beginGet(3, "k"), "adopt N": adoptBy(3), "fall N": fallBy(3),
		"deliver N": deliverAt(3), "drop N": dropAt(3), "copy N": copyAt(3),
	}
}

// wantEventLine wants this event of a line behind a view, wherever it stands; a fault of the line when it is none.
func wantEventLine(t *testing.T, line string, want event, right bool) {
	t.Helper()
	if !right {
		wantFault(t, "no event", textOf("view 1,3", line), 2)
		wantFault(t, "no event", textOf("view 1,3", "", "fall 2", line, "view 0", "fall 7"), 4)
		return
	}
	wantRead(t, "an event", textOf("view 1,3", line), [][]int{{1, 3}}, want)
	wantRead(t, "an event", textOf("view 1,3", "fall 2", line, "", line, "fall 2"), [][]int{{1, 3}}, fallBy(2), want, want, fallBy(2))
}

func TestEventLineNodes(t *testing.T) {
	for form, e := range eventForms() {
		isNode := e.Node == 3
		for _, n := range []int{0, 1, 2, 3, 4, 5, 6, 7, 8, 69, 70, 71, 256, 257, 999999999, 1000000000, 1000000001, 1000000003, 4294967299} {
			want, right := e, n <= 1000000000
			if isNode {
				want.Node, right = n, n >= 1 && n <= 6
			} else {
				want.At = n
			}
			wantEventLine(t, strings.Replace(form, "N", strconv.Itoa(n), 1), want, right)
		}
		for _, part := range []string{"01", "00", "003", "-1", "-0", "+1", "-", "+", "a", "1a", "a1", "1,2", "1,", ",1", ",", "1.0", "0x1", "1e0", "1_0", "#", "#1", "10000000000", "18446744073709551617", "99999999999999999999", "k"} {
			wantEventLine(t, strings.Replace(form, "N", part, 1), event{}, false)
		}
	}
}

// Parts that are too few, one too few, one too many and more of them.
func TestEventLineParts(t *testing.T) {
	for form, e := range eventForms() {
		line := strings.Replace(form, "N", "3", 1)
		parts := strings.Fields(line)
		wantEventLine(t, line, e, true)
		for few := 1; few < len(parts); few++ {
			wantEventLine(t, strings.Join(parts[:few], " "), event{}, false)
			wantEventLine(t, strings.Join(parts[:few], " ")+"  ", event{}, false)
			wantEventLine(t, strings.Join(slices.Delete(slices.Clone(parts), few-1, few), " "), event{}, false)
		}
		for _, more := range []string{" 1", " k", " #", " # a", " 1 2", " , ,", " 1 2 3 4 5 6"} {
			wantEventLine(t, line+more, event{}, false)
		}
	}
}

func TestEventLineWords(t *testing.T) {
	for form := range eventForms() {
		word, rest, _ := strings.Cut(strings.Replace(form, "N", "3", 1), " ")
		title := strings.ToUpper(word[:1]) + word[1:]
		for _, other := range []string{
			strings.ToUpper(word), title, word[:len(word)-1] + strings.ToUpper(word[len(word)-1:]), word + "s", word + "1", word + ",", word + "#", word + ":", word[:len(word)-1], word[:1], word[1:],
			word + word, "x" + word, "'" + word + "'", "begin", "lose", "carry", "twice", "serves", "fault", "rest", "1", ",", "-", "EvFall", "1" + word,
		} {
			wantEventLine(t, other+" "+rest, event{}, false)
		}
		wantEventLine(t, word+rest, event{}, false)
		wantEventLine(t, rest, event{}, false)
	}
}

func TestEventLineKeysAndVals(t *testing.T) {
	for _, length := range []int{1, 2, 11, 12, 13, 14, 20, 21, 500} {
		key := strings.Repeat("k", length)
		wantEventLine(t, "put 3 "+key+" v", beginPut(3, key, "v"), length <= 12)
		wantEventLine(t, "get 3 "+key, beginGet(3, key), length <= 12)
	}
	for _, length := range []int{1, 2, 12, 13, 19, 20, 21, 22, 500} {
		val := strings.Repeat("v", length)
		wantEventLine(t, "put 3 k "+val, beginPut(3, "k", val), length <= 20)
		wantEventLine(t, "put 3 "+strings.Repeat("k", 12)+" "+val, beginPut(3, strings.Repeat("k", 12), val), length <= 20)
		wantEventLine(t, "put 3 "+strings.Repeat("k", 13)+" "+val, event{}, false)
	}
	// A Key and a Val are parts like any others: numbers, words and commas are none of their own there.
	for _, part := range []string{"1", "01", "-1", "put", "view", "1,2", ",", "#", "~!\"$%&'()*+", "<k>"} {
		wantEventLine(t, "put 3 "+part+" "+part, beginPut(3, part, part), true)
		wantEventLine(t, "get 3 "+part, beginGet(3, part), true)
	}
}

// As many events as may be, and one more: the fault is that line.
func TestEventLinesUpToMaxLife(t *testing.T) {
	for _, e := range eventForms() {
		for _, count := range []int{1, 2, 69, 70} {
			lines := linesOfLife([][]int{{1, 3}}, slices.Repeat([]event{e}, count))
			wantRead(t, "so many events", textOf(lines...), [][]int{{1, 3}}, slices.Repeat([]event{e}, count)...)
			wantRead(t, "so many events and a remark", textOf(lines...)+"# fall 1\n\n", [][]int{{1, 3}}, slices.Repeat([]event{e}, count)...)
		}
		lines := linesOfLife([][]int{{1, 3}, {3}}, slices.Repeat([]event{e}, 71))
		wantFault(t, "an event more", textOf(lines...), 73)
		wantFault(t, "events more", textOf(lines...)+"fall 1\nfall 7\n", 73)
		wantFault(t, "an event more behind remarks", "\n#\n"+textOf(lines[:72]...)+"# a\n"+lines[72], 76)
		lines[71] = "fall 7"
		wantFault(t, "an event that is wrong ahead of it", textOf(lines...), 72)
		lines[71], lines[72] = lineOfEvent(e), "view 1"
		wantFault(t, "a view in its place", textOf(lines...), 73)
	}
}
