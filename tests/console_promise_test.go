package tests

import (
	"slices"
	"strconv"
	"strings"
	"testing"

	"loop.example/g00180/impl"
)

// tellOf is what Console must tell of views and events, by RunGroup.
func tellOf(t *testing.T, views [][]int, events []event) string {
	t.Helper()
	g, numbers, ok := impl.RunGroup(views, events)
	if !ok || len(numbers) != len(events) {
		t.Fatalf("RunGroup(%v, %+v) = %v, %v", views, events, numbers, ok)
	}
	return ruleTell(g, numbers)
}

// wantScript wants lines to tell just these views and events, and what these do.
func wantScript(t *testing.T, lines []string, views [][]int, events []event, told string) {
	t.Helper()
	text := textOf(lines...)
	for _, text := range []string{text, strings.TrimSuffix(text, "\n")} {
		gotViews, gotEvents, fault := impl.ReadScript(text)
		if !sameViews(gotViews, views) || !slices.Equal(gotEvents, events) || fault != 0 {
			t.Fatalf("ReadScript(%q) =\n%v, %+v, %d; want\n%v, %+v, 0", text, gotViews, gotEvents, fault, views, events)
		}
		if got := impl.Console(text); got != told {
			t.Fatalf("Console(%q) = %q; want %q", text, got, told)
		}
	}
}

// with puts lines that are passed over at drawn places among others, while all of it is not too much.
func (d *draws) with(lines []string, least, most, count int) []string {
	all := slices.Clone(lines)
	for range count {
		at := least + d.below(most-least+1)
		more := slices.Insert(slices.Clone(all), at, d.passed())
		if !fitsScript(more) {
			return all
		}
		all = more
	}
	return all
}

// scriptLook counts what was seen in drawn scripts.
func (l *lifeLook) script(views [][]int, events []event, told string) {
	l.did["scripts of "+strconv.Itoa(len(views))+" views"]++
	if len(events) == 70 {
		l.did["scripts of MaxLife events"]++
	}
	for _, e := range events {
		word, _, _ := strings.Cut(lineOfEvent(e), " ")
		l.did[word]++
	}
	for at, line := range ruleLines(told) {
		word, _, _ := strings.Cut(line, " ")
		if at == 0 && len(events) > 0 {
			word = "numbers"
			l.did["numbers that are 1"] += strings.Count(line, "1")
		}
		l.did["told "+word]++
		if strings.HasSuffix(line, " ") {
			l.did["told of nothing got"]++
		}
	}
	switch strings.Count(told, "serves") {
	case 0:
		l.did["none serves"]++
	case 1:
		l.did["one serves"]++
	default:
		l.did["several serve"]++
	}
}

// What drawn lives tell in lines is read again, and what the lines tell is what the events do.
func TestPromise17DrawnScripts(t *testing.T) {
	l := &lifeLook{did: map[string]int{}}
	for seed := range 3000 {
		views, events := toldLife(seed*7%71, seed)
		if seed%4 == 0 {
			views, events = toldLife(70, seed)
		}
		told := tellOf(t, views, events)
		lines := linesOfLife(views, events)
		wantScript(t, lines, views, events, told)
		if readScript(t, textOf(lines...)); console(t, textOf(lines...)) != told {
			t.Fatalf("of %q is told other than %q", lines, told)
		}
		l.script(views, events, told)
	}
	for count := 1; count <= 9; count++ {
		l.wantDid(t, map[string]int{"scripts of " + strconv.Itoa(count) + " views": 80})
	}
	l.wantDid(t, map[string]int{
		"scripts of MaxLife events": 500, "put": 5000, "get": 5000, "deliver": 20000, "drop": 500, "copy": 2000, "adopt": 2000, "fall": 500,
		"told numbers": 2000, "numbers that are 1": 5000, "told put": 2000, "told get": 2000, "told of nothing got": 500, "told serves": 1500,
		"none serves": 500, "one serves": 1000, "several serve": 300,
	})
}

// Each line alone, of every Kind, Node, Key length and Val length.
func TestPromise17EachEventIsRead(t *testing.T) {
	d := newDraws(17)
	var events []event
	for node := 1; node <= 6; node++ {
		events = append(events, adoptBy(node), fallBy(node))
		for length := 1; length <= 12; length++ {
			key := d.part(length)
			events = append(events, beginGet(node, key))
			for other := 1; other <= 20; other++ {
				events = append(events, beginPut(node, key, d.part(other)))
			}
		}
	}
	for _, at := range numbersToTry() {
		if at%7 < 3 {
			events = append(events, deliverAt(at), dropAt(at), copyAt(at))
		}
	}
	for len(events) > 0 {
		few := events[:min(len(events), 1+d.below(70))]
		events = events[len(few):]
		views := d.views()
		wantScript(t, linesOfLife(views, few), views, few, tellOf(t, views, few))
	}
}

// Every view there is, in scripts of as many views as may be.
func TestPromise17EachViewIsRead(t *testing.T) {
	var views [][]int
	for length := 1; length <= 4; length++ {
		eachPick(length, 6, func(pick []int) {
			var view []int
			for _, one := range pick {
				view = append(view, one+1)
			}
			if ruleViews([][]int{view}) {
				views = append(views, view)
			}
		})
	}
	if len(views) != 6+6*5+6*5*4+6*5*4*3 {
		t.Fatalf("there are %d views", len(views))
	}
	for at := range views {
		few := views[at:min(at+1+at%9, len(views))]
		wantScript(t, linesOfLife(few, nil), few, nil, tellOf(t, few, nil))
	}
}

// Lines that are passed over, wherever they stand, change nothing.
func TestPromise17PassedLinesChangeNothing(t *testing.T) {
	most := 0
	for seed := range 1000 {
		d := newDraws(seed*3 + 2)
		views, events := toldLife(seed%71, seed+9000)
		told := tellOf(t, views, events)
		lines := linesOfLife(views, events)
		count := 1 + d.below(20)
		wantScript(t, d.with(lines, 0, 0, count), views, events, told)
		wantScript(t, d.with(lines, len(lines), len(lines), count), views, events, told)
		wantScript(t, d.with(lines, 0, len(lines), count), views, events, told)
		wantScript(t, d.with(lines, len(views), len(views), count), views, events, told)
		all := d.with(lines, 0, len(lines), 100)
		wantScript(t, all, views, events, told)
		if len(all) == 100 {
			most++
		}
	}
	if most < 300 {
		t.Errorf("only %d scripts had MaxLines lines", most)
	}
}

// One line that is passed over, of each kind, at each place of a script.
func TestPromise17OnePassedLineAnywhere(t *testing.T) {
	views, events := [][]int{{1, 2}, {2, 3}, {2}}, []event{
		beginPut(1, "k", "v"), copyAt(0), deliverAt(0), dropAt(0), deliverAt(0), adoptBy(2), beginGet(2, "k"), deliverAt(0), deliverAt(0), fallBy(1), beginGet(2, "k"),
	}
	told := tellOf(t, views, events)
	lines := linesOfLife(views, events)
	for _, passed := range []string{"", " ", strings.Repeat(" ", 600), "#", "# view 1", "#fall 1", " # put 1 k w", "#" + strings.Repeat("-", 599), "# 2 3 4 5 6 7 8 9 10"} {
		for at := range len(lines) + 1 {
			wantScript(t, slices.Insert(slices.Clone(lines), at, passed), views, events, told)
			wantScript(t, slices.Insert(slices.Clone(lines), at, passed, passed, passed), views, events, told)
		}
	}
}

// More blanks between the parts of a line, ahead of them and behind them, change nothing either.
func TestPromise17BlanksChangeNothing(t *testing.T) {
	for seed := range 1000 {
		d := newDraws(seed*5 + 3)
		views, events := toldLife(seed%71, seed+4000)
		told := tellOf(t, views, events)
		lines := linesOfLife(views, events)
		for at, line := range lines {
			if more := d.spaced(line); len(textOf(lines...))+len(more)-len(line) <= 4000 {
				lines[at] = more
			}
		}
		wantScript(t, lines, views, events, told)
		wantScript(t, d.with(lines, 0, len(lines), 10), views, events, told)
	}
}

// In a script that has a fault lines that are passed over move it, by as many as stand ahead, and change nothing else.
func TestPromise17PassedLinesMoveAFault(t *testing.T) {
	moved := 0
	for seed := range 1500 {
		d := newDraws(seed*11 + 5)
		views, events := toldLife(seed%60, seed+700)
		// A view is no fault ahead of all events.
		wrong := slices.DeleteFunc(faultyLines(), func(line string) bool { return line == "view 2" })
		at, line := len(views)+d.below(len(events)+1), wrong[d.below(len(wrong))]
		lines := slices.Insert(linesOfLife(views, events), at, line)
		if !fitsScript(lines) {
			continue
		}
		wantFault(t, "a fault", textOf(lines...), at+1)
		all := d.with(lines, 0, at, d.below(15))
		ahead := len(all) - len(lines)
		all = d.with(all, at+ahead+1, len(all), d.below(5))
		wantFault(t, "a fault that is moved", textOf(all...), at+ahead+1)
		moved += min(ahead, 1)
	}
	if moved < 1000 {
		t.Errorf("only %d faults were moved", moved)
	}
}

// The same lines in another order are another script: what is told follows the order of the lines.
func TestPromise17EventsHappenInOrder(t *testing.T) {
	eachOrder([]string{"put 1 k one", "put 1 k two", "get 1 k", "get 1 k", "fall 1"}, func(order []string) {
		numbers, calls, last, fell := []string{}, []string{}, "", false
		for _, line := range order {
			parts := strings.Fields(line)
			number := "0"
			switch {
			case parts[0] == "fall":
				fell = true
			case fell:
				number = "1"
			case parts[0] == "put":
				last = parts[3]
				calls = append(calls, "put k")
			default:
				calls = append(calls, "get k "+last)
			}
			numbers = append(numbers, number)
		}
		// By the end it fell, wherever that stands, so nobody serves.
		want := append([]string{strings.Join(numbers, " ")}, calls...)
		wantTold(t, "an order", "view 1\n"+textOf(order...), want...)
	})
}
