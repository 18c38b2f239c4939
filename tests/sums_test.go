package tests

import (
	"slices"
	"strings"
	"testing"

	"loop.example/g00180/impl"
)

// stepSum is the chapter's rule word by word: eight halvings a byte.
func stepSum(sum uint32, text string) uint32 {
	for _, b := range []byte(text) {
		sum ^= uint32(b)
		for range 8 {
			odd := sum%2 == 1
			sum /= 2
			if odd {
				sum ^= 3558460437
			}
		}
	}
	return sum
}

// sumText has the four bytes of a sum, the highest first.
func sumText(sum uint32) string {
	return string([]byte{byte(sum / 16777216), byte(sum / 65536), byte(sum / 256), byte(sum)})
}

// sumsToTry has sums with few bits, with many, and each with one bit alone.
func sumsToTry() []uint32 {
	list := []uint32{0, 3, 255, 256, 65535, 3558460437, 2863311530, 1431655765, 4294967294, 4294967295}
	for bit := range 32 {
		list = append(list, 1<<bit)
	}
	return list
}

// textsToSeal are short enough to turn each of their bytes into every other one.
func textsToSeal() []string {
	all := make([]byte, 256)
	for i := range all {
		all[i] = byte(i)
	}
	return []string{
		"", "a", "\x00", "\x80", "\xff", "abc", "\x00\x00\x00\x00", "\xff\xff\xff\xff", "\x7f\x80\x01",
		"what is wanted often is kept near", strings.Repeat("\x00", 40), strings.Repeat("ab", 30), string(all),
	}
}

func wantSealed(t *testing.T, text string) string {
	t.Helper()
	want := text + sumText(stepSum(4294967295, text))
	sealed, ok := impl.Sealed(text)
	if sealed != want || !ok {
		t.Fatalf("Sealed of %d bytes (%.20q) = %d bytes, %v; want it and its sum, true", len(text), text, len(sealed), ok)
	}
	return sealed
}

func wantUnsealed(t *testing.T, sealed, want string) {
	t.Helper()
	if text, ok := impl.Unsealed(sealed); text != want || !ok {
		t.Errorf("Unsealed of %d bytes (%.20q) = %d bytes, %v; want %.20q, true", len(sealed), sealed, len(text), ok, want)
	}
}

func wantNoUnsealed(t *testing.T, sealed string) {
	t.Helper()
	if text, ok := impl.Unsealed(sealed); text != "" || ok {
		t.Errorf("Unsealed of %d bytes (%.20q) = %.20q, %v; want none, false", len(sealed), sealed, text, ok)
	}
}

// withByte is a text with one byte in place of another.
func withByte(text string, at int, b byte) string {
	return text[:at] + string([]byte{b}) + text[at+1:]
}

func TestSumMoreSteps(t *testing.T) {
	bytes := []byte{0, 1, 127, 128, 255}
	for _, sum := range sumsToTry() {
		for b := range 256 {
			text := string([]byte{byte(b)})
			if got, want := impl.SumMore(sum, text), stepSum(sum, text); got != want {
				t.Fatalf("SumMore(%d, %q) = %d; want %d", sum, text, got, want)
			}
		}
		for i := range 125 {
			text := string([]byte{bytes[i%5], bytes[i/5%5], bytes[i/25]})
			if got, want := impl.SumMore(sum, text), stepSum(sum, text); got != want {
				t.Fatalf("SumMore(%d, %q) = %d; want %d", sum, text, got, want)
			}
		}
		if got := impl.SumMore(sum, ""); got != sum {
			t.Errorf("SumMore(%d, none) = %d; want it as it was", sum, got)
		}
	}
}

func TestSumMoreKnown(t *testing.T) {
	known := []struct {
		sum  uint32
		text string
		want uint32
	}{
		{0, "", 0}, {0, "\x00", 0}, {0, "\x80", 3558460437}, {128, "\x00", 3558460437}, {128, "\x80", 0},
		{256, "\x00", 1}, {4294967295, "", 4294967295},
		// The bit 64 is odd one halving ahead of the last, where 3558460437 is odd itself;
		// the bit 128 beside it makes it even there.
		{0, "\x40", 3558460437/2 ^ 3558460437}, {0, "\xc0", 3558460437 / 2},
	}
	for _, k := range known {
		if got := impl.SumMore(k.sum, k.text); got != k.want {
			t.Errorf("SumMore(%d, %q) = %d; want %d", k.sum, k.text, got, k.want)
		}
	}
	// The check value that is told of this sum, ahead of its last turning of all bits.
	if got := impl.SumOf("123456789"); got != 0xffffffff^0x87315576 {
		t.Errorf("SumOf(123456789) = %#x", got)
	}
}

func TestSumOfBeginsWithAllBits(t *testing.T) {
	for _, text := range append(textsToTry(), textsToSeal()...) {
		if got, want := impl.SumOf(text), stepSum(4294967295, text); got != want {
			t.Errorf("SumOf of %d bytes (%.20q) = %d; want %d", len(text), text, got, want)
		}
	}
	long := strings.Repeat("near", impl.MaxText)
	if got, want := impl.SumOf(long), stepSum(4294967295, long); got != want {
		t.Errorf("SumOf of %d bytes = %d; want %d", len(long), got, want)
	}
}

func TestPromise2SumMoreGoesOn(t *testing.T) {
	for _, text := range textsToSeal() {
		whole := impl.SumOf(text)
		for cut := range len(text) + 1 {
			if got := impl.SumMore(impl.SumOf(text[:cut]), text[cut:]); got != whole {
				t.Fatalf("%.20q cut at %d has the sum %d; want %d", text, cut, got, whole)
			}
			for _, sum := range []uint32{0, 1, 3558460437} {
				if got, want := impl.SumMore(impl.SumMore(sum, text[:cut]), text[cut:]), impl.SumMore(sum, text); got != want {
					t.Fatalf("%.20q cut at %d has, from %d on, the sum %d; want %d", text, cut, sum, got, want)
				}
			}
		}
	}
	long := textsToTry()
	for _, text := range long[len(long)-2:] {
		for _, cut := range []int{0, 1, 127, 128, 9999, len(text) - 1, len(text)} {
			if got, want := impl.SumMore(impl.SumOf(text[:cut]), text[cut:]), impl.SumOf(text); got != want {
				t.Errorf("%d bytes cut at %d have the sum %d; want %d", len(text), cut, got, want)
			}
		}
	}
}

func TestPromise2SealedIsUnsealed(t *testing.T) {
	for _, text := range append(textsToTry(), textsToSeal()...) {
		wantUnsealed(t, wantSealed(t, text), text)
		// What is sealed may be sealed anew, as long as there is room.
		if len(text)+4 <= impl.MaxText {
			once := wantSealed(t, text)
			wantUnsealed(t, wantSealed(t, once), once)
		}
	}
}

func TestPromise2OneByteTurned(t *testing.T) {
	for _, text := range textsToSeal() {
		sealed := wantSealed(t, text)
		for at := range len(sealed) {
			for b := range 256 {
				if byte(b) != sealed[at] {
					wantNoUnsealed(t, withByte(sealed, at, byte(b)))
				}
			}
			for bit := range 8 {
				wantNoUnsealed(t, withByte(sealed, at, sealed[at]^1<<bit))
			}
		}
		wantUnsealed(t, sealed, text)
	}
}

func TestPromise2OneByteTurnedInLongTexts(t *testing.T) {
	long := textsToTry()
	for _, text := range long[len(long)-2:] {
		sealed := wantSealed(t, text)
		places := []int{0, 1, 255, 10000, len(text) - 1, len(text), len(text) + 1, len(text) + 2, len(text) + 3}
		for _, at := range places {
			for bit := range 8 {
				wantNoUnsealed(t, withByte(sealed, at, sealed[at]^1<<bit))
			}
			wantNoUnsealed(t, withByte(sealed, at, ^sealed[at]))
		}
	}
}

func TestSealedForms(t *testing.T) {
	forms := []struct{ text, sealed string }{
		{"", "\xff\xff\xff\xff"},
		{"123456789", "123456789\x78\xce\xaa\x89"},
	}
	for _, f := range forms {
		if sealed, ok := impl.Sealed(f.text); sealed != f.sealed || !ok {
			t.Errorf("Sealed(%q) = %q, %v; want %q, true", f.text, sealed, ok, f.sealed)
		}
		wantUnsealed(t, f.sealed, f.text)
	}
	for _, text := range textsToSeal() {
		reversed := []byte(sumText(stepSum(4294967295, text)))
		slices.Reverse(reversed)
		if string(reversed) != sumText(stepSum(4294967295, text)) {
			wantNoUnsealed(t, text+string(reversed))
		}
		wantNoUnsealed(t, sumText(stepSum(4294967295, text))+text+"x")
		wantNoUnsealed(t, text+sumText(^stepSum(4294967295, text)))
		wantNoUnsealed(t, text+sumText(stepSum(0, text)))
	}
}

func TestSealedLimits(t *testing.T) {
	for _, letter := range []string{"\x00", "k", "\xff"} {
		most := strings.Repeat(letter, impl.MaxText)
		sealed := wantSealed(t, most)
		if len(sealed) != impl.MaxText+4 {
			t.Errorf("a text of MaxText bytes is sealed in %d bytes", len(sealed))
		}
		wantUnsealed(t, sealed, most)
		for _, more := range []int{1, 2, 4, impl.MaxText} {
			over := most + strings.Repeat(letter, more)
			if got, ok := impl.Sealed(over); got != "" || ok {
				t.Errorf("Sealed of %d bytes = %d bytes, %v; want none, false", len(over), len(got), ok)
			}
			wantNoUnsealed(t, over)
			wantNoUnsealed(t, over+sumText(stepSum(4294967295, over)))
		}
		wantNoUnsealed(t, sealed+letter)
		wantNoUnsealed(t, sealed[:len(sealed)-1])
		wantNoUnsealed(t, strings.Repeat(letter, impl.MaxText+4))
	}
	wantUnsealed(t, wantSealed(t, ""), "")
}

// A text of fewer than four bytes has no room for a sum, and one of four is the sum of nothing or is not sealed.
func TestUnsealedShortTexts(t *testing.T) {
	wantNoUnsealed(t, "")
	for b := range 256 {
		one := string([]byte{byte(b)})
		wantNoUnsealed(t, one)
		wantNoUnsealed(t, one+"\xff")
		wantNoUnsealed(t, one+one)
		wantNoUnsealed(t, one+"\xff\xff")
		wantNoUnsealed(t, "\xff\xff"+one)
		wantNoUnsealed(t, one+one+one)
		wantNoUnsealed(t, one+sumText(4294967295))
		if b != 255 {
			wantNoUnsealed(t, one+one+one+one)
			wantNoUnsealed(t, "\xff\xff\xff"+one)
			wantNoUnsealed(t, one+"\xff\xff\xff")
		}
	}
	wantUnsealed(t, "\xff\xff\xff\xff", "")
}

func TestSumsAreNewMemory(t *testing.T) {
	text := strings.Repeat("kept", 9)
	sealed, _ := impl.Sealed(text)
	if shares(sealed, text) {
		t.Error("Sealed shares memory with its argument")
	}
	if inner, _ := impl.Unsealed(sealed); shares(inner, sealed) {
		t.Error("Unsealed shares memory with its argument")
	}
}
