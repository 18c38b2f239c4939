package tests

import (
	"strings"
	"testing"

	"loop.example/g00180/impl"
)

// wantBack holds that a right message comes back from its bytes, every field of it, and that the
// text is the one the rule writes.
func wantBack(t *testing.T, m msg) string {
	t.Helper()
	want, right := ruleMsgText(m)
	if !right {
		t.Fatalf("%v is not right", m)
	}
	text, ok := impl.MsgText(m)
	if text != want || !ok {
		t.Fatalf("MsgText(%v) = %q, %v; want %q, true", m, text, ok, want)
	}
	got, ok := impl.ReadMsg(text)
	if !sameMsg(got, m) || !ok {
		t.Fatalf("ReadMsg of the text of %v = %v, %v", m, got, ok)
	}
	return text
}

// wantNoMsg wants false, and a message without anything.
func wantNoMsg(t *testing.T, what, text string) {
	t.Helper()
	if m, right := ruleRead(text); right {
		t.Fatalf("%s: by the rule %q is %v", what, text, m)
	}
	if m, ok := impl.ReadMsg(text); ok || !sameMsg(m, msg{}) {
		t.Errorf("%s: ReadMsg(%q) = %v, %v; want nothing, false", what, text, m, ok)
	}
}

func TestPromise13(t *testing.T) {
	kinds := map[int]int{}
	for _, m := range rightMsgs() {
		wantBack(t, m)
		kinds[m.Kind]++
	}
	for kind := 1; kind <= 8; kind++ {
		if kinds[kind] < 20 {
			t.Errorf("only %d messages are of Kind %d", kinds[kind], kind)
		}
	}
}

// Each From, To and Epoch, in messages of each Kind.
func TestPromise13EachNodeAndEpoch(t *testing.T) {
	eachKindWith(func(m msg) {
		for from := 1; from <= 6; from++ {
			for to := 1; to <= 6; to++ {
				for epoch := 1; epoch <= 9; epoch++ {
					m.From, m.To, m.Epoch = from, to, epoch
					wantBack(t, m)
				}
			}
		}
	})
}

// Num and Ver at each length that a VarText has.
func TestPromise13EachNumberLength(t *testing.T) {
	lengths := map[int]int{}
	eachKindWith(func(m msg) {
		for _, num := range numsToTry() {
			m.Num = num
			text := wantBack(t, m)
			if m.Kind == impl.AskSeal {
				lengths[len(text)]++
			}
		}
	})
	if len(lengths) != 5 {
		t.Errorf("the Nums have %d lengths; want 5: %v", len(lengths), lengths)
	}
	for _, kind := range []int{impl.TellState, impl.AskInstall, impl.AskStore} {
		for _, ver := range versToTry() {
			m := someMsg(kind)
			m.Items = []item{itemOf("k", "", ver)}
			wantBack(t, m)
			if kind != impl.AskStore {
				m.Items = append(manyItems(10), itemOf("x", "", ver), itemOf("y", "v", ver))
				wantBack(t, m)
			}
		}
	}
}

// Keys of 1 to MaxKey bytes and Vals of 0 to MaxVal, of any bytes, those of numbers and of 0 among them.
func TestPromise13EachTextLength(t *testing.T) {
	for _, kind := range []int{impl.TellState, impl.AskInstall, impl.AskStore} {
		for key := 1; key <= impl.MaxKey; key++ {
			for val := 0; val <= impl.MaxVal; val++ {
				for _, fill := range []string{"x", "\x00", "\x7f", "\x80", "\xff", "\x01"} {
					m := someMsg(kind)
					m.Items = []item{itemOf(strings.Repeat(fill, key), strings.Repeat(fill, val), 1+key*val)}
					wantBack(t, m)
				}
			}
		}
	}
	for b := range 256 {
		m := someMsg(impl.AskStore)
		m.Items = []item{itemOf(string([]byte{byte(b)}), string([]byte{'v', byte(b)}), 1+b)}
		wantBack(t, m)
	}
}

// Each count of Items that a message may have, with the longest texts and numbers, too.
func TestPromise13EachCountOfItems(t *testing.T) {
	for _, kind := range []int{impl.TellState, impl.AskInstall} {
		for count := range 13 {
			m := someMsg(kind)
			m.Items = manyItems(count)
			wantBack(t, m)
			for at := range m.Items {
				key := string(rune('a' + at))
				m.Items[at] = itemOf(strings.Repeat(key, 12), strings.Repeat("\xff", 20), 1000000000)
			}
			m.Num = 1000000000
			text := wantBack(t, m)
			if want := 4 + 5 + 1 + count*(1+12+1+20+5) + 4; len(text) != want {
				t.Errorf("the longest text of %d Items has %d bytes; want %d", count, len(text), want)
			}
		}
	}
}

func TestPromise13DrawnMessages(t *testing.T) {
	kinds, counts := map[int]int{}, map[int]int{}
	texts := map[string]msg{}
	for seed := range 4000 {
		m := drawnMsg(seed)
		text := wantBack(t, m)
		if other, has := texts[text]; has && !sameMsg(other, m) {
			t.Fatalf("%v and %v have one text", other, m)
		}
		texts[text] = m
		kinds[m.Kind]++
		counts[len(m.Items)]++
	}
	for kind := 1; kind <= 8; kind++ {
		if kinds[kind] < 200 {
			t.Errorf("only %d drawn messages are of Kind %d", kinds[kind], kind)
		}
	}
	for count := range 13 {
		if counts[count] < 20 {
			t.Errorf("only %d drawn messages have %d Items", counts[count], count)
		}
	}
}

// msgsToTurn are few, but of each Kind, with none, few and 12 Items.
func msgsToTurn() []msg {
	var all []msg
	eachKindWith(func(m msg) {
		all = append(all, m)
		if most := ruleMost()[m.Kind][1]; most == 12 {
			for _, count := range []int{1, 2, 12} {
				m.Items = manyItems(count)
				all = append(all, m)
			}
		}
	})
	return all
}

// Any one byte turned into any other one: there is no such message.
func TestPromise13OneByteTurned(t *testing.T) {
	for _, m := range msgsToTurn() {
		text := wantBack(t, m)
		for at := range len(text) {
			for turned := range 256 {
				if byte(turned) == text[at] {
					continue
				}
				if got, ok := impl.ReadMsg(withByte(text, at, byte(turned))); ok || !sameMsg(got, msg{}) {
					t.Fatalf("the text of %v with the byte %d at %d is %v, %v", m, turned, at, got, ok)
				}
			}
		}
	}
	for seed := range 60 {
		text := wantBack(t, drawnMsg(seed))
		for at := range len(text) {
			for _, over := range []byte{1, 2, 4, 8, 16, 32, 64, 128, 255} {
				wantNoMsg(t, "a byte turned", withByte(text, at, text[at]^over))
			}
		}
	}
}

// One byte of the message turned, and sealed anew: another right message, or none; what is read
// is written as it was.
func TestPromise13TextsThatAreRight(t *testing.T) {
	right, wrong := 0, 0
	for _, m := range msgsToTurn() {
		text := wantBack(t, m)
		inner := text[:len(text)-4]
		for at := range len(inner) {
			for turned := range 256 {
				other := ruleSealed(withByte(inner, at, byte(turned)))
				want, wantOk := ruleRead(other)
				got, ok := impl.ReadMsg(other)
				if !sameMsg(got, want) || ok != wantOk {
					t.Fatalf("ReadMsg(%q) = %v, %v; want %v, %v", other, got, ok, want, wantOk)
				}
				if !ok {
					wrong++
					continue
				}
				right++
				if again, ok := impl.MsgText(got); again != other || !ok {
					t.Fatalf("%q is read as %v, whose text is %q, %v", other, got, again, ok)
				}
			}
		}
	}
	if right < 1000 || wrong < 1000 {
		t.Errorf("%d of the texts are right, %d are not", right, wrong)
	}
}
