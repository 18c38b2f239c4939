package tests

import (
	"fmt"
	"regexp"
	"slices"
	"strconv"
	"strings"
	"testing"

	"loop.example/g00180/impl"
)

// The forms of a line, each as a whole; numbers are looked at afterwards.
var (
	numberForm = regexp.MustCompile(`^(0|[1-9][0-9]*)$`)
	viewForm   = regexp.MustCompile(`^ *view +([!-~]+) *$`)
	putForm    = regexp.MustCompile(`^ *put +([!-~]+) +([!-~]+) +([!-~]+) *$`)
	getForm    = regexp.MustCompile(`^ *get +([!-~]+) +([!-~]+) *$`)
	otherForm  = regexp.MustCompile(`^ *(deliver|drop|copy|adopt|fall) +([!-~]+) *$`)
	plainForm  = regexp.MustCompile(`^[ -~]*$`)
)

// ruleNumber is the number of figures; -1 of what is none.
func ruleNumber(text string) int {
	n, err := strconv.Atoi(text)
	if !numberForm.MatchString(text) || err != nil || n > 1000000000 {
		return -1
	}
	return n
}

// ruleNumbers are those between commas.
func ruleNumbers(text string) []int {
	var numbers []int
	for more := true; more; {
		var number string
		number, text, more = strings.Cut(text, ",")
		numbers = append(numbers, ruleNumber(number))
	}
	return numbers
}

// lineKind is what a line tells, wherever it stands.
type lineKind int

const (
	wrongLine lineKind = iota
	passedLine
	viewLine
	eventLine
)

// ruleLine is what a line tells. A number that is none is -1 there, so neither a view nor an event with it is right.
func ruleLine(line string) (lineKind, []int, event) {
	parts := strings.Fields(line)
	if len(line) > 600 || len(parts) > 10 || !plainForm.MatchString(line) {
		return wrongLine, nil, event{}
	}
	if len(parts) == 0 || parts[0][0] == '#' {
		return passedLine, nil, event{}
	}
	if has := viewForm.FindStringSubmatch(line); has != nil {
		return viewLine, ruleNumbers(has[1]), event{}
	}
	if has := putForm.FindStringSubmatch(line); has != nil {
		return eventLine, nil, beginPut(ruleNumber(has[1]), has[2], has[3])
	}
	if has := getForm.FindStringSubmatch(line); has != nil {
		return eventLine, nil, beginGet(ruleNumber(has[1]), has[2])
	}
	has := otherForm.FindStringSubmatch(line)
	if has == nil {
		return wrongLine, nil, event{}
	}
	n := ruleNumber(has[2])
	return eventLine, nil, map[string]event{"deliver": deliverAt(n), "drop": dropAt(n), "copy": copyAt(n), "adopt": adoptBy(n), "fall": fallBy(n)}[has[1]]
}

// ruleLines are the lines of a text, each without its byte 10.
func ruleLines(text string) []string {
	lines := strings.Split(text, "\n")
	if lines[len(lines)-1] == "" {
		lines = lines[:len(lines)-1]
	}
	return lines
}

// ruleReadScript is ReadScript by the rules, with the numbers of the document written out.
func ruleReadScript(text string) ([][]int, []event, int) {
	lines := ruleLines(text)
	if len(text) > 4000 || len(lines) > 100 {
		return nil, nil, -1
	}
	var views [][]int
	var events []event
	for at, line := range lines {
		kind, view, e := ruleLine(line)
		right := kind == passedLine
		switch kind {
		case viewLine:
			views = append(views, view)
			right = ruleViews(views) && len(events) == 0
		case eventLine:
			events = append(events, e)
			right = ruleEvent(e) && len(views) > 0 && len(events) <= 70
		}
		if !right {
			return nil, nil, at + 1
		}
	}
	if len(views) == 0 {
		return nil, nil, 1
	}
	return views, events, 0
}

// ruleTell is what is told of a life.
func ruleTell(g group, numbers []int) string {
	told := ""
	if len(numbers) > 0 {
		told = strings.Trim(fmt.Sprint(numbers), "[]") + "\n"
	}
	for _, c := range g.Calls {
		switch {
		case c.Done < 0:
		case c.Op == 1:
			told += fmt.Sprintf("put %s\n", c.Key)
		case c.Op == 2:
			told += fmt.Sprintf("get %s %s\n", c.Key, c.Got)
		}
	}
	for _, m := range g.Members {
		if m.Serves {
			told += fmt.Sprintf("serves %d\n", m.Id)
		}
	}
	return told
}

// ruleConsole is Console by the rules.
func ruleConsole(text string) string {
	views, events, fault := ruleReadScript(text)
	if fault != 0 {
		return fmt.Sprintf("fault %d\n", fault)
	}
	g, numbers, _ := ruleRunGroup(views, events)
	return ruleTell(g, numbers)
}

// readScript is ReadScript, held against the rules.
func readScript(t *testing.T, text string) ([][]int, []event, int) {
	t.Helper()
	views, events, fault := impl.ReadScript(text)
	wantViews, wantEvents, wantFault := ruleReadScript(text)
	if !sameViews(views, wantViews) || !slices.Equal(events, wantEvents) || fault != wantFault {
		t.Fatalf("ReadScript(%q) =\n%v, %+v, %d; want\n%v, %+v, %d", text, views, events, fault, wantViews, wantEvents, wantFault)
	}
	return views, events, fault
}

// console is Console, held against the rules.
func console(t *testing.T, text string) string {
	t.Helper()
	told := impl.Console(text)
	if want := ruleConsole(text); told != want {
		t.Fatalf("Console(%q) = %q; want %q", text, told, want)
	}
	return told
}

// wantRead wants these views and events of a text, and no fault.
func wantRead(t *testing.T, what, text string, views [][]int, events ...event) {
	t.Helper()
	gotViews, gotEvents, fault := readScript(t, text)
	if !sameViews(gotViews, views) || !slices.Equal(gotEvents, events) || fault != 0 {
		t.Fatalf("%s: ReadScript(%q) =\n%v, %+v, %d; want\n%v, %+v, 0", what, text, gotViews, gotEvents, fault, views, events)
	}
	if told := console(t, text); strings.Contains(told, "fault") {
		t.Fatalf("%s: Console(%q) = %q", what, text, told)
	}
}

// wantFault wants nothing of a text but its fault.
func wantFault(t *testing.T, what, text string, want int) {
	t.Helper()
	views, events, fault := readScript(t, text)
	if len(views) > 0 || len(events) > 0 || fault != want {
		t.Fatalf("%s: ReadScript(%q) = %v, %+v, %d; want nothing, %d", what, text, views, events, fault, want)
	}
	if told, want := console(t, text), "fault "+strconv.Itoa(want)+"\n"; told != want {
		t.Fatalf("%s: Console(%q) = %q; want %q", what, text, told, want)
	}
}

// wantTold wants what a text tells to be just these lines.
func wantTold(t *testing.T, what, text string, want ...string) {
	t.Helper()
	if told := console(t, text); told != textOf(want...) {
		t.Fatalf("%s: Console(%q) = %q; want %q", what, text, told, want)
	}
}

// textOf ends each line with a byte 10.
func textOf(lines ...string) string {
	text := ""
	for _, line := range lines {
		text += line + "\n"
	}
	return text
}

// lineOfView tells a view.
func lineOfView(view []int) string {
	return "view " + strings.Trim(strings.ReplaceAll(fmt.Sprint(view), " ", ","), "[]")
}

// lineOfEvent tells an event that a line can tell: a Key and a Val have no blank in them and are not empty.
func lineOfEvent(e event) string {
	switch {
	case e.Kind == 1 && e.Op == 1:
		return fmt.Sprintf("put %d %s %s", e.Node, e.Key, e.Val)
	case e.Kind == 1:
		return fmt.Sprintf("get %d %s", e.Node, e.Key)
	case e.Kind < 5:
		return fmt.Sprintf("%s %d", []string{"deliver", "drop", "copy"}[e.Kind-2], e.At)
	}
	return fmt.Sprintf("%s %d", []string{"adopt", "fall"}[e.Kind-5], e.Node)
}

// linesOfLife tell views and events.
func linesOfLife(views [][]int, events []event) []string {
	var lines []string
	for _, view := range views {
		lines = append(lines, lineOfView(view))
	}
	for _, e := range events {
		lines = append(lines, lineOfEvent(e))
	}
	return lines
}

// part is a drawn one, of any bytes that a part may have.
func (d *draws) part(length int) string {
	var out []byte
	for range length {
		out = append(out, byte(33+d.below(94)))
	}
	return string(out)
}

// keyParts are few unlike Keys; some look like other parts of a line.
func (d *draws) keyParts() []string {
	keys := []string{"a", "#a", "view", "1,2", "-", "put", "01", "~!"}
	for length := range 12 {
		keys = append(keys, "k"+d.part(length))
	}
	for at := range keys {
		other := d.below(at + 1)
		keys[at], keys[other] = keys[other], keys[at]
	}
	return keys[:6]
}

// tellable makes of events such as a line can tell: of each Kind only what its line has is kept. Each put has a Val of its own.
func (d *draws) tellable(events []event) []event {
	keys := d.keyParts()
	told := slices.Clone(events)
	for place, e := range told {
		switch {
		case e.Kind == 1 && e.Op == 1:
			val := strconv.Itoa(place)
			told[place] = beginPut(e.Node, keys[int(e.Key[len(e.Key)-1])%len(keys)], val+strings.Repeat("#", d.below(21-len(val))))
		case e.Kind == 1:
			told[place] = beginGet(e.Node, keys[int(e.Key[len(e.Key)-1])%len(keys)])
		case e.Kind < 5:
			told[place] = event{Kind: e.Kind, Node: 1, At: min(e.At, 1000000000)}
		default:
			told[place] = event{Kind: e.Kind, Node: e.Node}
		}
	}
	return told
}

// toldLife is a drawn life that lines can tell.
func toldLife(count, seed int) ([][]int, []event) {
	views, events := drawnLife(count, seed)
	if seed%3 == 0 {
		views, events = lateLife(count, seed)
	}
	return views, newDraws(seed + 1).tellable(events)
}

// passed is a line that is passed over.
func (d *draws) passed() string {
	return []string{
		"", " ", "    ", "#", "##", " #", "# ", "#1", "# view 1", "#view 9,9", "  # put 1 k v", "#put", "# fault 1", "#\x7e", strings.Repeat(" ", 9) + "#",
	}[d.below(15)]
}

// blanks are so many at least.
func (d *draws) blanks(least int) string {
	return strings.Repeat(" ", least+d.below(3))
}

// spaced is the same line, with more blanks ahead of its parts, between and behind them.
func (d *draws) spaced(line string) string {
	return d.blanks(0) + strings.Join(strings.Split(line, " "), d.blanks(1)) + d.blanks(0)
}

// fitsScript tells whether lines are not too much for a script.
func fitsScript(lines []string) bool {
	return len(lines) <= 100 && len(textOf(lines...)) <= 4000
}
