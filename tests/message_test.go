package tests

import (
	"math"
	"strings"
	"testing"

	"loop.example/g00180/impl"
)

// wantMsgOk holds a message against what is wanted of it; one that is not right has no text.
func wantMsgOk(t *testing.T, what string, m msg, want bool) {
	t.Helper()
	if ruleMsg(m) != want {
		t.Fatalf("%s: by the rule it is %v that %v is right", what, !want, m)
	}
	if got := impl.MsgOk(m); got != want {
		t.Errorf("%s: MsgOk(%v) = %v; want %v", what, m, got, want)
	}
	text, ok := impl.MsgText(m)
	if wantText, _ := ruleMsgText(m); text != wantText || ok != want {
		t.Errorf("%s: MsgText(%v) = %q, %v; want %q, %v", what, m, text, ok, wantText, want)
	}
}

// eachKindWith calls back with a right message of each Kind, as someMsg has it.
func eachKindWith(back func(m msg)) {
	for kind := 1; kind <= 8; kind++ {
		back(someMsg(kind))
	}
}

func TestMsgOkKind(t *testing.T) {
	counts := map[int]int{}
	for kind := -3; kind <= 300; kind++ {
		for _, list := range [][]item{nil, {}, manyItems(1), manyItems(2), manyItems(12)} {
			m := someMsg(1)
			m.Kind, m.Items = kind, list
			wantMsgOk(t, "a Kind", m, ruleMsg(m))
			if ruleMsg(m) {
				counts[kind]++
			}
		}
	}
	for _, kind := range []int{math.MinInt, -8, math.MaxInt} {
		for _, list := range [][]item{nil, manyItems(1), manyItems(2)} {
			m := someMsg(1)
			m.Kind, m.Items = kind, list
			wantMsgOk(t, "a Kind", m, false)
		}
	}
	for kind, want := range map[int]int{1: 2, 2: 5, 3: 5, 4: 2, 5: 1, 6: 2, 7: 2, 8: 2} {
		if counts[kind] != want {
			t.Errorf("%d lists are right in a message of Kind %d; want %d", counts[kind], kind, want)
		}
		delete(counts, kind)
	}
	if len(counts) != 0 {
		t.Errorf("other Kinds are right: %v", counts)
	}
}

func TestMsgOkFromAndTo(t *testing.T) {
	for node, want := range map[int]bool{math.MinInt: false, -1: false, 0: false, 1: true, 2: true, 5: true, 6: true, 7: false, 255: false, 257: false, math.MaxInt: false} {
		eachKindWith(func(m msg) {
			from, to, both := m, m, m
			from.From = node
			to.To = node
			both.From, both.To = node, node
			wantMsgOk(t, "From", from, want)
			wantMsgOk(t, "To", to, want)
			wantMsgOk(t, "both", both, want)
		})
	}
}

func TestMsgOkEpoch(t *testing.T) {
	for epoch, want := range map[int]bool{math.MinInt: false, -1: false, 0: false, 1: true, 2: true, 8: true, 9: true, 10: false, 255: false, 257: false, math.MaxInt: false} {
		eachKindWith(func(m msg) {
			m.Epoch = epoch
			wantMsgOk(t, "Epoch", m, want)
		})
	}
}

func TestMsgOkNum(t *testing.T) {
	for num, want := range map[int]bool{math.MinInt: false, -1000000000: false, -1: false, 0: true, 1: true, 999999999: true, 1000000000: true, 1000000001: false, math.MaxInt: false} {
		eachKindWith(func(m msg) {
			m.Num = num
			wantMsgOk(t, "Num", m, want)
		})
	}
}

// How many Items a message may have hangs on its Kind.
func TestMsgOkHowManyItems(t *testing.T) {
	most := map[int][2]int{
		impl.AskSeal: {0, 0}, impl.TellState: {0, 12}, impl.AskInstall: {0, 12}, impl.TellDone: {0, 0},
		impl.AskStore: {1, 1}, impl.TellStored: {0, 0}, impl.AskSure: {0, 0}, impl.TellSure: {0, 0},
	}
	eachKindWith(func(m msg) {
		for count := range 15 {
			m.Items = manyItems(count)
			wantMsgOk(t, "how many Items", m, count >= most[m.Kind][0] && count <= most[m.Kind][1])
		}
		m.Items = []item{}
		wantMsgOk(t, "an empty list", m, m.Kind != impl.AskStore)
		m.Items = nil
		wantMsgOk(t, "nil", m, m.Kind != impl.AskStore)
	})
}

func TestMsgOkItemsThatAreNotRight(t *testing.T) {
	eachKindWith(func(m msg) {
		for _, w := range wrongLists() {
			m.Items = w.list
			wantMsgOk(t, w.what, m, false)
		}
		for _, w := range wrongItems() {
			m.Items = []item{w.item}
			wantMsgOk(t, w.what, m, false)
		}
	})
}

func TestMsgOkOfMany(t *testing.T) {
	for _, m := range rightMsgs() {
		wantMsgOk(t, "a right message", m, true)
	}
	for _, w := range wrongMsgs() {
		wantMsgOk(t, w.what, w.msg, false)
	}
	wantMsgOk(t, "nothing at all", msg{}, false)
}

// Known texts, byte by byte; the four bytes behind them are the sum.
func TestMsgTextBytes(t *testing.T) {
	full := []item{itemOf(strings.Repeat("k", 12), strings.Repeat("v", 20), 1000000000)}
	for want, m := range map[string]msg{
		"\x01\x01\x02\x03\x00\x00":                            {Kind: impl.AskSeal, From: 1, To: 2, Epoch: 3},
		"\x02\x06\x05\x09\x7f\x00":                            {Kind: impl.TellState, From: 6, To: 5, Epoch: 9, Num: 127},
		"\x02\x06\x05\x09\x80\x01\x01\x01a\x00\x01":           {Kind: impl.TellState, From: 6, To: 5, Epoch: 9, Num: 128, Items: []item{itemOf("a", "", 1)}},
		"\x03\x01\x06\x02\x00\x02\x01a\x01b\x7f\x01b\x00\x02": {Kind: impl.AskInstall, From: 1, To: 6, Epoch: 2, Items: []item{itemOf("a", "b", 127), itemOf("b", "", 2)}},
		"\x04\x02\x01\x02\x00\x00":                            {Kind: impl.TellDone, From: 2, To: 1, Epoch: 2},
		"\x05\x01\x02\x01\x03\x01\x01a\x01v\xe9\x07":          {Kind: impl.AskStore, From: 1, To: 2, Epoch: 1, Num: 3, Items: []item{itemOf("a", "v", 1001)}},
		"\x06\x02\x01\x01\x80\x94\xeb\xdc\x03\x00":            {Kind: impl.TellStored, From: 2, To: 1, Epoch: 1, Num: 1000000000},
		"\x07\x03\x03\x08\xff\x7f\x00":                        {Kind: impl.AskSure, From: 3, To: 3, Epoch: 8, Num: 16383},
		"\x08\x04\x02\x01\x80\x80\x01\x00":                    {Kind: impl.TellSure, From: 4, To: 2, Epoch: 1, Num: 16384},
		"\x05\x01\x02\x01\x03\x01\x0ckkkkkkkkkkkk\x14vvvvvvvvvvvvvvvvvvvv\x80\x94\xeb\xdc\x03": {Kind: impl.AskStore, From: 1, To: 2, Epoch: 1, Num: 3, Items: full},
	} {
		want = ruleSealed(want)
		if text, ok := impl.MsgText(m); text != want || !ok {
			t.Errorf("MsgText(%v) = %q, %v; want %q, true", m, text, ok, want)
		}
		if got, ok := impl.ReadMsg(want); !sameMsg(got, m) || !ok {
			t.Errorf("ReadMsg(%q) = %v, %v; want %v, true", want, got, ok, m)
		}
	}
}

func TestMsgTextOfWhatIsNotRight(t *testing.T) {
	for _, w := range append(wrongMsgs(), wrongMsg{what: "nothing at all"}) {
		if text, ok := impl.MsgText(w.msg); text != "" || ok {
			t.Errorf("%s: MsgText(%v) = %q, %v; want nothing, false", w.what, w.msg, text, ok)
		}
	}
}
