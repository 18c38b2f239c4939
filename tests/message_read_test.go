package tests

import (
	"slices"
	"strings"
	"testing"

	"loop.example/g00180/impl"
)

// readPieces are the messages whose texts are cut, stretched and lied about here.
func readPieces() []msg {
	many := someMsg(impl.TellState)
	many.Items = manyItems(12)
	return append(msgsToTurn(), many, drawnMsg(3), drawnMsg(17))
}

// withPiece is the text of a message, sealed, with one of its pieces another one.
func withPiece(pieces []string, at int, other string) string {
	changed := slices.Clone(pieces)
	changed[at] = other
	return ruleSealed(strings.Join(changed, ""))
}

func TestReadMsgOfNoMessage(t *testing.T) {
	for _, text := range []string{"", "a", "\x01", "\x00\x00\x00", "\x00\x00\x00\x00", "\xff\xff\xff\xff", "a message that is none", strings.Repeat("\x00", 20), strings.Repeat("\x00", 20004), strings.Repeat("\xff", 30000)} {
		wantNoMsg(t, "no message", text)
		wantNoMsg(t, "no message, sealed", ruleSealed(text))
	}
}

// A text cut off at each place, at its end or at its beginning, as it is and sealed anew.
func TestReadMsgCutOff(t *testing.T) {
	for _, m := range readPieces() {
		text := wantBack(t, m)
		inner := text[:len(text)-4]
		for at := range len(text) {
			wantNoMsg(t, "cut off at the end", text[:at])
		}
		for at := 1; at < len(text); at++ {
			wantNoMsg(t, "cut off at the beginning", text[at:])
		}
		for at := range len(inner) {
			wantNoMsg(t, "cut off, sealed anew", ruleSealed(inner[:at]))
		}
		for at := 1; at < len(inner); at++ {
			wantNoMsg(t, "the end alone, sealed anew", ruleSealed(inner[at:]))
		}
	}
}

// A byte more at the end, sealed anew, is none of a message, whatever it is.
func TestReadMsgByteMoreAtTheEnd(t *testing.T) {
	for _, m := range readPieces() {
		text := wantBack(t, m)
		inner := text[:len(text)-4]
		for b := range 256 {
			more := string([]byte{byte(b)})
			wantNoMsg(t, "a byte more behind the sum", text+more)
			wantNoMsg(t, "a byte more ahead of all", more+text)
			wantNoMsg(t, "a byte more, sealed anew", ruleSealed(inner+more))
		}
		wantNoMsg(t, "the text twice", text+text)
		wantNoMsg(t, "the text twice, sealed anew", ruleSealed(inner+inner))
		wantNoMsg(t, "sealed twice", ruleSealed(text))
		wantNoMsg(t, "very many bytes more", ruleSealed(inner+strings.Repeat("\x00", 20000-len(inner))))
		wantNoMsg(t, "more bytes than can be sealed", ruleSealed(inner+strings.Repeat("\x00", 20001-len(inner))))
	}
}

// A byte more at any place, sealed anew, is read by the rule: nearly always there is no message.
func TestReadMsgByteMoreInTheMidst(t *testing.T) {
	none := 0
	for _, m := range readPieces() {
		text := wantBack(t, m)
		inner := text[:len(text)-4]
		for at := range len(inner) + 1 {
			for b := range 256 {
				more := ruleSealed(inner[:at] + string([]byte{byte(b)}) + inner[at:])
				want, wantOk := ruleRead(more)
				if got, ok := impl.ReadMsg(more); !sameMsg(got, want) || ok != wantOk {
					t.Fatalf("ReadMsg(%q) = %v, %v; want %v, %v", more, got, ok, want, wantOk)
				}
				if !wantOk {
					none++
				}
			}
		}
	}
	if none < 10000 {
		t.Errorf("only %d of the texts are no message", none)
	}
}

// A byte taken out at any place, sealed anew, as well.
func TestReadMsgByteLess(t *testing.T) {
	for _, m := range readPieces() {
		text := wantBack(t, m)
		inner := text[:len(text)-4]
		for at := range inner {
			less := ruleSealed(inner[:at] + inner[at+1:])
			want, wantOk := ruleRead(less)
			if got, ok := impl.ReadMsg(less); !sameMsg(got, want) || ok != wantOk {
				t.Fatalf("ReadMsg(%q) = %v, %v; want %v, %v", less, got, ok, want, wantOk)
			}
		}
	}
}

// numberPieces are the places of the pieces that are numbers: Num, how many Items, the lengths, Ver.
func numberPieces(m msg) []int {
	places := []int{4, 5}
	for at := range m.Items {
		first := 6 + 5*at
		places = append(places, first, first+2, first+4)
	}
	return places
}

// numberOf is the number that a piece tells.
func numberOf(piece string) int {
	r := &looseReader{rest: piece}
	return r.number()
}

// A number in a longer form says the same, yet no MsgText has it.
func TestReadMsgLongerForms(t *testing.T) {
	for _, m := range readPieces() {
		pieces := msgPieces(m)
		for _, at := range numberPieces(m) {
			n := numberOf(pieces[at])
			if varBytes(n, varLength(n)) != pieces[at] {
				t.Fatalf("the piece %q of %v is not %d", pieces[at], m, n)
			}
			for longer := 1; longer <= 12; longer++ {
				wantNoMsg(t, "a longer form", withPiece(pieces, at, varBytes(n, varLength(n)+longer)))
			}
			wantNoMsg(t, "a number without an end", withPiece(pieces, at, strings.Repeat("\x80", 300)))
		}
	}
}

// Numbers that are too great, for their limit or for an int.
func TestReadMsgGreatNumbers(t *testing.T) {
	great := []string{ruleVar(1000000001), ruleVar(1 << 31), ruleVar(1 << 32), ruleVar(1 << 35), ruleVar(1 << 62), "\xff\xff\xff\xff\xff\xff\xff\xff\x7f", "\xff\xff\xff\xff\xff\xff\xff\xff\xff\x01", "\x80\x80\x80\x80\x80\x80\x80\x80\x80\x02", strings.Repeat("\xff", 40) + "\x01"}
	for _, m := range readPieces() {
		pieces := msgPieces(m)
		for _, at := range numberPieces(m) {
			for _, n := range great {
				text := withPiece(pieces, at, n)
				if got, ok := impl.ReadMsg(text); ok || !sameMsg(got, msg{}) {
					t.Errorf("ReadMsg of %v with the number %q at its piece %d = %v, %v", m, n, at, got, ok)
				}
			}
		}
	}
}

// A text that tells of more Items than there are, of fewer, or of very many.
func TestReadMsgWrongCount(t *testing.T) {
	for _, kind := range []int{1, 2, 3, 4, 5, 6, 7, 8} {
		for has := range 13 {
			m := someMsg(kind)
			m.Items = manyItems(has)
			pieces := msgPieces(m)
			for _, told := range []int{0, 1, 2, 3, 4, 5, 6, 7, 8, 9, 10, 11, 12, 13, 14, 100, 127, 128, 255, 256, 65536, 1000000000} {
				if told != has {
					wantNoMsg(t, "another count", withPiece(pieces, 5, ruleVar(told)))
				}
			}
		}
		for _, has := range []int{13, 14, 26} {
			m := someMsg(kind)
			m.Items = manyItems(has)
			wantNoMsg(t, "too many Items", writtenMsg(m))
		}
	}
}

// A text that has as many Items as it tells of, but they are very many: the longest that can be sealed.
func TestReadMsgVeryManyItems(t *testing.T) {
	for _, count := range []int{13, 127, 128, 1000, 4997} {
		text := "\x02\x01\x02\x01\x00" + ruleVar(count) + strings.Repeat("\x01k\x00\x01", count)
		if len(text) > 20000 {
			t.Fatalf("%d items cannot be sealed", count)
		}
		wantNoMsg(t, "very many Items", ruleSealed(text))
	}
}

// A length that is not that of the text behind it.
func TestReadMsgWrongLengths(t *testing.T) {
	for _, kind := range []int{impl.TellState, impl.AskInstall, impl.AskStore} {
		m := someMsg(kind)
		pieces := msgPieces(m)
		if kind != impl.AskStore {
			m.Items = manyItems(7)
			pieces = msgPieces(m)
		}
		for at := range m.Items {
			for _, place := range []int{6 + 5*at, 8 + 5*at} {
				for told := range 400 {
					text := withPiece(pieces, place, ruleVar(told))
					want, wantOk := ruleRead(text)
					if got, ok := impl.ReadMsg(text); !sameMsg(got, want) || ok != wantOk {
						t.Fatalf("ReadMsg(%q) = %v, %v; want %v, %v", text, got, ok, want, wantOk)
					}
				}
				for _, told := range []int{19999, 20000, 20001, 1000000000} {
					wantNoMsg(t, "a great length", withPiece(pieces, place, ruleVar(told)))
				}
			}
		}
	}
}

// The text of a message that is not right, sealed: each way in which it may be not right.
func TestReadMsgOfWhatIsNotRight(t *testing.T) {
	ways := map[string]int{}
	for _, w := range wrongMsgs() {
		if !canBeWritten(w.msg) || len(writtenMsg(w.msg)) > 20004 {
			continue
		}
		ways[w.what]++
		wantNoMsg(t, w.what, writtenMsg(w.msg))
	}
	for _, what := range []string{"Kind", "From", "To", "Epoch", "Num", "how many Items", "Items: 13 items", "Items: two of one Key", "Items: Keys that descend", "Items: a Key of no bytes", "Items: a Key of 13 bytes", "Items: a Val of 21 bytes", "Items: a Ver of 0", "Items: a Ver above MaxNumber"} {
		if ways[what] == 0 {
			t.Errorf("no text is wrong by its %s", what)
		}
	}
}

// Each worth of each of the four bytes ahead of all.
func TestReadMsgFirstBytes(t *testing.T) {
	for _, m := range readPieces() {
		pieces := msgPieces(m)
		for at := range 4 {
			right := 0
			for b := range 256 {
				text := withPiece(pieces, at, string([]byte{byte(b)}))
				want, wantOk := ruleRead(text)
				if got, ok := impl.ReadMsg(text); !sameMsg(got, want) || ok != wantOk {
					t.Fatalf("ReadMsg(%q) = %v, %v; want %v, %v", text, got, ok, want, wantOk)
				}
				if wantOk {
					right++
				}
			}
			if at > 0 && right != []int{0, 6, 6, 9}[at] {
				t.Errorf("%d worths of the byte %d of %v are right", right, at, m)
			}
		}
	}
}

// Drawn bytes, sealed: there is a message just where the rule has one.
func TestReadMsgOfDrawnBytes(t *testing.T) {
	right := 0
	for seed := range 20000 {
		numbers := drawnNumbers(20, seed)
		var inner []byte
		for at, n := range numbers[:6+seed%14] {
			most := []int{9, 7, 7, 10, 3, 3}[min(at, 5)]
			inner = append(inner, byte(uint64(n)>>8%uint64(most)))
		}
		text := ruleSealed(string(inner))
		want, wantOk := ruleRead(text)
		if got, ok := impl.ReadMsg(text); !sameMsg(got, want) || ok != wantOk {
			t.Fatalf("ReadMsg(%q) = %v, %v; want %v, %v", text, got, ok, want, wantOk)
		}
		if wantOk {
			right++
		}
	}
	if right < 100 {
		t.Errorf("only %d drawn texts are right", right)
	}
}

// A Num that is none stops the reading: nothing else is made of the bytes, though these would be two
// right Items, and as many as the first byte tells, were they read from there on.
func TestReadMsgStopsAtTheFirstWrongNumber(t *testing.T) {
	for _, num := range []string{"\x80\x80\x00ab", "\xff\xff\xff\xff\xff", "\x80\x00abc", "\x81\x94\xeb\xdc\x03"} {
		text := "\x02\x01\x01\x05" + num + "\x01" + "\x01b\x00\x01"
		wantNoMsg(t, "a Num that is none", ruleSealed(text))
		right := someMsg(impl.TellState)
		right.Items = []item{itemOf("\x01", num, 1), itemOf("b", "", 1)}
		if inner := strings.Join(msgPieces(right)[6:], ""); inner != text[1:] {
			t.Fatalf("the Items are %q, not %q", inner, text[1:])
		}
		wantBack(t, right)
	}
}
