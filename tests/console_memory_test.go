package tests

import (
	"slices"
	"strings"
	"testing"

	"loop.example/g00180/impl"
)

// scriptsToKeep are such as are read, and few that are at fault.
func scriptsToKeep(count int) []string {
	var all []string
	for seed := range count {
		d := newDraws(seed)
		lines := linesOfLife(toldLife(d.below(71), seed))
		if d.below(10) == 0 {
			lines[d.below(len(lines))] = "no line"
		}
		all = append(all, textOf(d.with(lines, 0, len(lines), d.below(10))...))
	}
	return all
}

// scriptAnswer is what ReadScript answers.
type scriptAnswer struct {
	views  [][]int
	events []event
	fault  int
}

func askScript(text string) scriptAnswer {
	var a scriptAnswer
	a.views, a.events, a.fault = impl.ReadScript(text)
	return a
}

func (a scriptAnswer) same(b scriptAnswer) bool {
	return sameViews(a.views, b.views) && slices.Equal(a.events, b.events) && a.fault == b.fault
}

func (a scriptAnswer) cells() []listCell {
	return append(cellsOfViews(a.views), newListCell("events", a.events, event{Kind: -99}, func(a, b event) bool { return a == b }))
}

func (a scriptAnswer) texts() []string {
	var texts []string
	for _, e := range a.events {
		texts = append(texts, e.Key, e.Val)
	}
	return texts
}

// What is written into one list of an answer, and into the room behind it, changes no other list of it, and no other answer.
func TestScriptListsAreNewMemory(t *testing.T) {
	read := 0
	for at, text := range scriptsToKeep(1500) {
		first, second := askScript(text), askScript(text)
		cells := first.cells()
		if at%2 == 0 {
			slices.Reverse(cells)
		}
		for place, c := range cells {
			c.write()
			for _, other := range cells[place+1:] {
				if !other.same() {
					t.Fatalf("of %q, writing into %s changes %s", text, c.name, other.name)
				}
			}
		}
		views, events, fault := ruleReadScript(text)
		if want := (scriptAnswer{views: views, events: events, fault: fault}); !second.same(want) {
			t.Fatalf("two answers to %q share memory", text)
		}
		read += min(len(second.events), 1)
	}
	if read < 1000 {
		t.Errorf("only %d scripts with events were read", read)
	}
}

func TestScriptTextsAreNewMemory(t *testing.T) {
	many := 0
	for _, text := range scriptsToKeep(300) {
		own := strings.Clone(text)
		first, second := askScript(own), askScript(own)
		texts := append(first.texts(), second.texts()...)
		wantNewTexts(t, "ReadScript", texts, []string{own})
		wantNewTexts(t, "Console", append(texts, impl.Console(own), impl.Console(own)), []string{own})
		if own != text {
			t.Fatalf("%q became %q", text, own)
		}
		many += len(texts)
	}
	// The words of a line that are a Key and a Val, too.
	own := strings.Clone("view 1\nput 1 view view\nput 1 put get\nget 1 deliver")
	wantNewTexts(t, "ReadScript", append(askScript(own).texts(), askScript(own).texts()...), []string{own})
	for _, text := range []string{"", "view 1", "view 1\nfall 1", "view 1\nget 2 k", "no"} {
		wantNewTexts(t, "Console", []string{impl.Console(text), impl.Console(text)}, []string{text})
	}
	if many < 5000 {
		t.Errorf("only %d texts were looked at", many)
	}
}

// The same is answered again, whatever was asked between: nothing is kept, not even of a script that has a fault.
func TestScriptsAreAnsweredAgain(t *testing.T) {
	scripts := scriptsToKeep(400)
	scripts = append(scripts, "", "view 1", "fall 1", "view 1\nfall 1", "view 2", "view 2\nget 2 k\nview 0", strings.Repeat("\n", 101), "get 1 k", "view 1\nget 1 k")
	var first []scriptAnswer
	var told []string
	for _, text := range scripts {
		first = append(first, askScript(text))
		told = append(told, impl.Console(text))
	}
	for at := len(scripts) - 1; at >= 0; at-- {
		if again := askScript(scripts[at]); !again.same(first[at]) {
			t.Fatalf("%q is answered by %+v, and then by %+v", scripts[at], first[at], again)
		}
		if again := impl.Console(scripts[at]); again != told[at] {
			t.Fatalf("of %q is told %q, and then %q", scripts[at], told[at], again)
		}
	}
}
