package tests

import (
	"math"
	"slices"
	"strings"
	"testing"

	"loop.example/g00180/impl"
)

func TestGroupLimits(t *testing.T) {
	if impl.MaxLife != 70 {
		t.Errorf("MaxLife is %d; want 70", impl.MaxLife)
	}
	kinds := [6]int{impl.EvBegin, impl.EvDeliver, impl.EvDrop, impl.EvCopy, impl.EvAdopt, impl.EvFall}
	if kinds != [6]int{1, 2, 3, 4, 5, 6} {
		t.Errorf("the Kinds of events are %v; want 1 to 6", kinds)
	}
}

func wantEvent(t *testing.T, what string, e event, want bool) {
	t.Helper()
	if ruleEvent(e) != want {
		t.Fatalf("%s: by the rule %+v is %v", what, e, !want)
	}
	if got := impl.EventOk(e); got != want {
		t.Errorf("%s: EventOk(%+v) = %v", what, e, got)
	}
}

// eventsToChange are right ones, one of each Kind, and both ops of EvBegin.
func eventsToChange() []event {
	return []event{beginPut(3, "k", "v"), beginPut(3, "k", ""), beginGet(3, "k"), deliverAt(0), dropAt(1), copyAt(2), adoptBy(4), fallBy(5)}
}

func TestEventOkKind(t *testing.T) {
	for kind := 2; kind <= 6; kind++ {
		wantEvent(t, "a Kind", event{Kind: kind, Node: 1}, true)
		wantEvent(t, "a Kind with an Op", event{Kind: kind, Node: 1, Op: impl.OpGet, Key: "k"}, false)
	}
	wantEvent(t, "EvBegin", beginPut(1, "k", "v"), true)
	wantEvent(t, "EvBegin without Op", event{Kind: 1, Node: 1}, false)
	for _, kind := range []int{math.MinInt, -6, -1, 0, 7, 8, 257, 258, math.MaxInt} {
		for _, e := range eventsToChange() {
			e.Kind = kind
			wantEvent(t, "none of the six", e, false)
		}
	}
	wantEvent(t, "nothing at all", event{}, false)
}

func TestEventOkNode(t *testing.T) {
	for _, e := range eventsToChange() {
		for node := 1; node <= 6; node++ {
			e.Node = node
			wantEvent(t, "Node", e, true)
		}
		for _, node := range []int{math.MinInt, -6, -1, 0, 7, 8, 257, math.MaxInt} {
			e.Node = node
			wantEvent(t, "Node", e, false)
		}
	}
}

func TestEventOkAt(t *testing.T) {
	for _, e := range eventsToChange() {
		for _, at := range []int{0, 1, 69, 70, 71, 1000, 1000000001, math.MaxInt} {
			e.At = at
			wantEvent(t, "At", e, true)
		}
		for _, at := range []int{-1, -2, -70, math.MinInt} {
			e.At = at
			wantEvent(t, "At", e, false)
		}
	}
}

func TestEventOkOp(t *testing.T) {
	for _, op := range []int{math.MinInt, -2, -1, 0, 1, 2, 3, 4, 257, 258, math.MaxInt} {
		begin := beginGet(1, "k")
		begin.Op = op
		wantEvent(t, "Op of EvBegin", begin, op == 1 || op == 2)
		for kind := 2; kind <= 6; kind++ {
			wantEvent(t, "Op of another Kind", event{Kind: kind, Node: 1, Op: op}, op == 0)
		}
	}
}

func TestEventOkKey(t *testing.T) {
	for _, length := range []int{0, 1, 2, 11, 12, 13, 14, 20, 21, 20001} {
		key := strings.Repeat("k", length)
		fits := length >= 1 && length <= 12
		wantEvent(t, "Key of a put", beginPut(1, key, "v"), fits)
		wantEvent(t, "Key of a put without Val", beginPut(1, key, ""), fits)
		wantEvent(t, "Key of a get", beginGet(1, key), fits)
		for kind := 2; kind <= 6; kind++ {
			wantEvent(t, "Key of another Kind", event{Kind: kind, Node: 1, Key: key}, length == 0)
		}
	}
	for _, key := range []string{"\x00", " ", "\xff\xfe", strings.Repeat("é", 6)} {
		wantEvent(t, "Key of any bytes", beginPut(1, key, "v"), true)
		wantEvent(t, "Key of any bytes", beginGet(1, key), true)
		for kind := 2; kind <= 6; kind++ {
			wantEvent(t, "Key of any bytes, of another Kind", event{Kind: kind, Node: 1, Key: key}, false)
		}
	}
	wantEvent(t, "Key of seven letters of two bytes", beginGet(1, strings.Repeat("é", 7)), false)
}

func TestEventOkVal(t *testing.T) {
	for _, length := range []int{0, 1, 2, 12, 13, 19, 20, 21, 22, 20001} {
		val := strings.Repeat("v", length)
		wantEvent(t, "Val of a put", beginPut(1, "k", val), length <= 20)
		get := beginGet(1, "k")
		get.Val = val
		wantEvent(t, "Val of a get", get, length == 0)
		for kind := 2; kind <= 6; kind++ {
			wantEvent(t, "Val of another Kind", event{Kind: kind, Node: 1, Val: val}, length == 0)
		}
	}
	for _, val := range []string{"\x00", " ", "\xff\xfe", strings.Repeat("é", 10)} {
		wantEvent(t, "Val of any bytes", beginPut(1, "k", val), true)
		get := beginGet(1, "k")
		get.Val = val
		wantEvent(t, "Val of any bytes, of a get", get, false)
	}
	wantEvent(t, "Val of eleven letters of two bytes", beginPut(1, "k", strings.Repeat("é", 11)), false)
}

// Every event whose fields are each at an edge is held against the chapter's rule.
func TestEventOkEachEdge(t *testing.T) {
	texts := []string{"", "k", strings.Repeat("k", 12), strings.Repeat("k", 13), strings.Repeat("k", 20), strings.Repeat("k", 21)}
	right := 0
	for kind := 0; kind <= 7; kind++ {
		for _, node := range []int{0, 1, 6, 7} {
			for _, at := range []int{-1, 0, math.MaxInt} {
				for op := -1; op <= 3; op++ {
					for _, key := range texts {
						for _, val := range texts {
							e := event{Kind: kind, Node: node, At: at, Op: op, Key: key, Val: val}
							if got := impl.EventOk(e); got != ruleEvent(e) {
								t.Fatalf("EventOk(%+v) = %v", e, got)
							} else if got {
								right++
							}
						}
					}
				}
			}
		}
	}
	// Two nodes and two places, of five Kinds alone, and of EvBegin two Keys with five Vals, or with none.
	if want := 2 * 2 * (5 + 2*5 + 2); right != want {
		t.Errorf("%d events are right; want %d", right, want)
	}
}

// wrongEvents are not right, in one way each.
func wrongEvents() []event {
	get := beginGet(1, "k")
	get.Val = "v"
	all := []event{
		{}, {Kind: 0, Node: 1}, {Kind: 7, Node: 1}, {Kind: -1, Node: 1},
		{Kind: 1, Node: 1}, {Kind: 1, Node: 1, Op: 3, Key: "k"}, {Kind: 1, Node: 1, Op: -1, Key: "k"}, get,
		beginPut(1, "", "v"), beginPut(1, strings.Repeat("k", 13), "v"), beginPut(1, "k", strings.Repeat("v", 21)),
		beginGet(1, ""), beginGet(1, strings.Repeat("k", 13)),
	}
	for _, e := range eventsToChange() {
		node, under, at := e, e, e
		node.Node, under.Node, at.At = 7, 0, -1
		all = append(all, node, under, at)
		if e.Kind != 1 {
			op, key, val := e, e, e
			op.Op, key.Key, val.Val = 1, "k", "v"
			all = append(all, op, key, val)
		}
	}
	return all
}

func TestWrongEventsAreWrong(t *testing.T) {
	for _, e := range wrongEvents() {
		wantEvent(t, "one thing is wrong", e, false)
	}
	if slices.ContainsFunc(eventsToChange(), func(e event) bool { return !impl.EventOk(e) }) {
		t.Errorf("one of %+v is not right", eventsToChange())
	}
}
