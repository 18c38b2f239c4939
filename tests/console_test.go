package tests

import (
	"strings"
	"testing"

	"loop.example/g00180/impl"
)

func TestScriptLimits(t *testing.T) {
	if impl.MaxScript != 4000 || impl.MaxLines != 100 {
		t.Errorf("MaxScript is %d, MaxLines is %d; want 4000, 100", impl.MaxScript, impl.MaxLines)
	}
}

// One of each line, and what is read of it.
func TestScriptOfEachLine(t *testing.T) {
	text := textOf("view 1,2,3,4", "view 6", "put 1 k v", "get 2 k", "deliver 3", "drop 4", "copy 5", "adopt 6", "fall 5")
	wantRead(t, "one of each line", text, [][]int{{1, 2, 3, 4}, {6}},
		event{Kind: 1, Node: 1, Op: 1, Key: "k", Val: "v"}, event{Kind: 1, Node: 2, Op: 2, Key: "k"},
		event{Kind: 2, Node: 1, At: 3}, event{Kind: 3, Node: 1, At: 4}, event{Kind: 4, Node: 1, At: 5},
		event{Kind: 5, Node: 6}, event{Kind: 6, Node: 5})
}

// The script of the chapter's functions, as one would write it.
func TestScriptAndWhatItTells(t *testing.T) {
	text := textOf("# a", "view 1", "put 1 a x", "get 1 a", "", "get 2 a")
	wantRead(t, "a script", text, [][]int{{1}}, beginPut(1, "a", "x"), beginGet(1, "a"), beginGet(2, "a"))
	wantTold(t, "a script", text, "0 0 1", "put a", "get a x", "serves 1")
}

func TestScriptOfNothing(t *testing.T) {
	for _, text := range []string{"", "\n", " ", " \n", "\n\n", "\n\n\n\n", "  \n  ", "#", "#\n", "# view 1\n", "\n#\n#", " # a\n\n # b\n"} {
		wantFault(t, "no view at all", text, 1)
	}
}

// The last line counts with its byte 10, and without.
func TestScriptLastLine(t *testing.T) {
	views := [][]int{{1, 2}}
	wantRead(t, "a view alone", "view 1,2\n", views)
	wantRead(t, "a view alone, without an end", "view 1,2", views)
	wantRead(t, "an event", "view 1,2\nfall 3\n", views, fallBy(3))
	wantRead(t, "an event without an end", "view 1,2\nfall 3", views, fallBy(3))
	wantRead(t, "a remark without an end", "view 1,2\nfall 3\n# fall 4", views, fallBy(3))
	wantRead(t, "blanks without an end", "view 1,2\nfall 3\n  ", views, fallBy(3))
	wantRead(t, "a line of nothing", "view 1,2\nfall 3\n\n", views, fallBy(3))
	for _, end := range []string{"", "\n"} {
		wantFault(t, "the last line at fault", "view 1,2\nfall 3\nfall"+end, 3)
		wantFault(t, "the last line at fault", "view 1,2\nfall 3\n\nview 1"+end, 4)
		wantFault(t, "one line at fault", "views"+end, 1)
	}
	// No other byte ends a line.
	for _, end := range []string{"\r", "\r\n", "\v", "\f", "\x00", "\u0085", "\u2028", "\t"} {
		wantFault(t, "no end of a line", "view 1,2"+end+"fall 3\n", 1)
		wantFault(t, "no end of a line", "view 1,2\nfall 3"+end, 2)
	}
}

func TestScriptBlanks(t *testing.T) {
	views := [][]int{{1, 2}}
	for _, few := range []string{" ", "  ", strings.Repeat(" ", 300)} {
		wantRead(t, "blanks ahead", few+"view 1,2\n"+few+"put 1 k v\n", views, beginPut(1, "k", "v"))
		wantRead(t, "blanks at the end", "view 1,2"+few+"\nput 1 k v"+few, views, beginPut(1, "k", "v"))
		wantRead(t, "blanks between", "view"+few+"1,2\nput 1"+few+"k v\n", views, beginPut(1, "k", "v"))
		wantRead(t, "lines of blanks", few+"\nview 1,2\n"+few+"\nput 1 k v\n"+few, views, beginPut(1, "k", "v"))
		wantFault(t, "blanks between numbers", "view 1,"+few+"2\n", 1)
		wantFault(t, "blanks between numbers", "view 1"+few+",2\n", 1)
		wantFault(t, "blanks in a word", "vi"+few+"ew 1,2\n", 1)
	}
	wantRead(t, "blanks everywhere", "  view   1,2 \n put   1  k    v  \n   get 2     k\n deliver  0 ", views, beginPut(1, "k", "v"), beginGet(2, "k"), deliverAt(0))
	for _, other := range []string{"\t", "\r", "\x00", "\x1f", "\x7f", "\x80", "\u00a0", "\u3000"} {
		wantFault(t, "no blank between", "view"+other+"1,2\n", 1)
		wantFault(t, "no blank at the end", "view 1,2"+other+"\n", 1)
		wantFault(t, "no blank ahead", other+"view 1,2\n", 1)
		wantFault(t, "no line of blanks", "view 1,2\n"+other+"\n", 2)
		wantFault(t, "no line of blanks", "view 1,2\n "+other, 2)
	}
}

func TestScriptRemarks(t *testing.T) {
	views := [][]int{{1}}
	for _, remark := range []string{"#", "# a", "#a", "##", "#view 1", "# view 0", "  #", "  # a b", "#,#", "#1 2 3 4 5 6 7 8 9 10", "# 2 3 4 5 6 7 8 9 10"} {
		wantRead(t, "a remark ahead", remark+"\nview 1\n", views)
		wantRead(t, "a remark at the end", "view 1\n"+remark, views)
		wantRead(t, "a remark between", "view 1\n"+remark+"\nget 1 k\n", views, beginGet(1, "k"))
	}
	for _, line := range []string{"view #1", "view 1 #", "view 1 # a", "get 1 k #", "get 1 k #a", "get 1 k # a", "deliver 0 #", "deliver #", "adopt 1 # it", "fall #1", "put 1 k v #", "view#", "view# 1", "put# 1 k v"} {
		wantFault(t, "a # behind the first part", "view 1\n"+line+"\n", 2)
	}
	// There a # is a byte like any other.
	wantRead(t, "a # in a Key and a Val", "view 1\nput 1 #k #v\nget 1 #\nput 1 k# v#\nput 1 # #\n", views,
		beginPut(1, "#k", "#v"), beginGet(1, "#"), beginPut(1, "k#", "v#"), beginPut(1, "#", "#"))
	wantFault(t, "a # that is not all of the Val", "view 1\nput 1 k # v\n", 2)
}

// A line that PartsOf refuses is at fault, also behind a #.
func TestScriptLinesThatAreRefused(t *testing.T) {
	for b := range 256 {
		one := string([]byte{byte(b)})
		plain := b >= 32 && b <= 126
		for _, line := range []string{"#" + one, "# a " + one + " b", " #" + one + "view 1"} {
			switch {
			case plain:
				wantRead(t, "a remark of a plain byte", "view 1\n"+line+"\nfall 1\n", [][]int{{1}}, fallBy(1))
			case b != 10:
				wantFault(t, "a remark of another byte", "view 1\n"+line+"\nfall 1\n", 2)
			}
		}
		switch {
		case plain && b != 32:
			wantRead(t, "a Key and a Val of a plain byte", "view 1\nput 1 "+one+" "+one+one+"\n", [][]int{{1}}, beginPut(1, one, one+one))
		case b != 10:
			wantFault(t, "a Key of another byte", "view 1\nget 1 "+one+"\n", 2)
			wantFault(t, "a Key with another byte", "view 1\nget 1 k"+one+"k\n", 2)
			wantFault(t, "a Val with another byte", "view 1\nput 1 k v"+one+"v\n", 2)
		}
	}
	ten := "# 2 3 4 5 6 7 8 9 10"
	wantRead(t, "MaxParts parts", ten+"\nview 1\n"+ten+" \n", [][]int{{1}})
	wantFault(t, "a part more", ten+" 11\nview 1\n", 1)
	wantFault(t, "a part more", "view 1\n"+ten+" 11\n", 2)
	long := "#" + strings.Repeat("a", 599)
	wantRead(t, "MaxWords bytes", long+"\nview 1\n"+long, [][]int{{1}})
	wantFault(t, "a byte more", long+"a\nview 1\n", 1)
	wantFault(t, "a byte more", "view 1\n"+long+"a", 2)
	wide := "view" + strings.Repeat(" ", 595)
	wantRead(t, "MaxWords bytes with blanks", wide+"1\n"+strings.Repeat(" ", 600)+"\n", [][]int{{1}})
	wantFault(t, "a blank more", wide+" 1\n", 1)
	wantFault(t, "a blank more", wide+"1 \n", 1)
	wantFault(t, "a blank more", " "+wide+"1\n", 1)
	wantFault(t, "a blank more", "view 1\n"+strings.Repeat(" ", 601)+"\n", 2)
}

// Each line of a word and few parts, alone, behind a view and behind an event.
func TestScriptEachLine(t *testing.T) {
	words := []string{"view", "put", "get", "deliver", "drop", "copy", "adopt", "fall", "PUT", "Fall", "pu", "puts", "#", "#put", "1", "1,2", "view,1"}
	parts := []string{"0", "1", "6", "7", "01", "-1", "1,2", "1,1", ",", "k", "#", "view", strings.Repeat("k", 12), strings.Repeat("k", 13), "1000000000", "1000000001"}
	few := []string{"1", "2,3", "k", "#", strings.Repeat("k", 13), strings.Repeat("v", 20), strings.Repeat("v", 21)}
	var lines []string
	for _, one := range words {
		lines = append(lines, one)
		for _, two := range parts {
			lines = append(lines, one+" "+two)
			for _, three := range parts {
				lines = append(lines, one+" "+two+" "+three)
				for _, four := range few {
					line := one + " " + two + " " + three + " " + four
					lines = append(lines, line, line+" 1")
				}
			}
		}
	}
	alone, behind, last := 0, 0, 0
	for _, line := range lines {
		if _, _, fault := readScript(t, line); fault == 0 {
			alone++
		}
		if _, _, fault := readScript(t, "view 2\n"+line+"\n"); fault == 0 {
			behind++
		}
		if _, _, fault := readScript(t, "view 2\nfall 2\n"+line); fault == 0 {
			last++
		}
	}
	// Of these parts 1, 6 and 1,2 are views; 1 and 6 nodes; 0, 1, 6, 7 and 1000000000 places.
	// 15 parts are Keys, all of few but one Vals. What begins with a # is passed over.
	puts, gets, others := 2*15*6, 2*15, 3*5+2*2
	passed := 2 * (1 + 16 + 16*16*(1+2*7))
	if alone != 3 || behind != 3+puts+gets+others+passed || last != puts+gets+others+passed {
		t.Errorf("%d lines are right alone, %d behind a view, %d behind an event", alone, behind, last)
	}
}

// Every script of a few lines.
func TestScriptOfEachFewLines(t *testing.T) {
	lines := []string{"", "# view", "view 1", "view 1,2", "view 3,3", "put 1 k v", "get 2 k", "fall 7", "deliver 0", "adopt 1", "\xff"}
	right := 0
	for count := range 5 {
		eachPick(count, len(lines), func(pick []int) {
			var text []string
			for _, one := range pick {
				text = append(text, lines[one])
			}
			if _, _, fault := readScript(t, textOf(text...)); fault == 0 {
				right++
				console(t, textOf(text...))
			}
			readScript(t, strings.TrimSuffix(textOf(text...), "\n"))
		})
	}
	// Two lines are passed over, two are views, four are events: of four lines, say, some are passed over, of the rest one
	// at least is a view, and all views stand ahead of all events.
	of := []int{2, 2*4 + 2*2, 2*4*4 + 2*2*4 + 2*2*2, 2*4*4*4 + 2*2*4*4 + 2*2*2*4 + 2*2*2*2}
	want := of[0] + (of[1] + 2*2*of[0]) + (of[2] + 3*2*of[1] + 3*4*of[0]) + (of[3] + 4*2*of[2] + 6*4*of[1] + 4*8*of[0])
	if right != want {
		t.Errorf("%d scripts are right; want %d", right, want)
	}
}
