package impl

import "strconv"

const (
	MaxText   = 20000
	MaxNumber = 1000000000
	MaxWords  = 600
	MaxParts  = 10
)

const (
	figures = "0123456789abcdef"
	// MaxNumber takes so many bytes as VarText, and so many decimal figures:
	// a reader that stops there never meets a number too great for an int.
	mostVarBytes = 5
	mostFigures  = 10
)

// VarText writes a number seven bits a byte, the lowest ones first.
func VarText(n int) (string, bool) {
	if n < 0 || n > MaxNumber {
		return "", false
	}
	out := make([]byte, 0, mostVarBytes)
	for n > 127 {
		out = append(out, byte(n%128+128))
		n /= 128
	}
	out = append(out, byte(n))
	return string(out), true
}

// ReadVar reads what VarText writes, from the place at on.
func ReadVar(text string, at int) (int, int, bool) {
	if at < 0 || at > len(text) {
		return 0, 0, false
	}
	n, weight := 0, 1
	for i := at; i < len(text) && i-at < mostVarBytes; i++ {
		n += int(text[i]%128) * weight
		weight *= 128
		if text[i] > 127 {
			continue
		}
		// A last byte of 0 behind others adds nothing: a shorter form has the same number.
		longer := text[i] == 0 && i > at
		if longer || n > MaxNumber {
			return 0, 0, false
		}
		return n, i + 1, true
	}
	return 0, 0, false
}

// ShortText writes a text behind its length.
func ShortText(s string) (string, bool) {
	if len(s) > MaxText {
		return "", false
	}
	length, ok := VarText(len(s))
	return length + s, ok
}

// ReadShort reads what ShortText writes, from the place at on.
func ReadShort(text string, at int) (string, int, bool) {
	length, begin, ok := ReadVar(text, at)
	if !ok || length > MaxText || length > len(text)-begin {
		return "", 0, false
	}
	end := begin + length
	return newText(text[begin:end]), end, true
}

// newText copies a piece of an argument, since an answer shares no memory with one.
func newText(piece string) string {
	return string([]byte(piece))
}

// Hex writes two figures for each byte.
func Hex(text string) (string, bool) {
	if len(text) > MaxText {
		return "", false
	}
	out := make([]byte, 0, 2*len(text))
	for i := 0; i < len(text); i++ {
		out = append(out, figures[text[i]/16], figures[text[i]%16])
	}
	return string(out), true
}

// Unhex reads what Hex writes.
func Unhex(text string) (string, bool) {
	if len(text)%2 != 0 || len(text) > 2*MaxText {
		return "", false
	}
	worths, ok := worthsOf(text, true)
	if !ok {
		return "", false
	}
	out := make([]byte, 0, len(worths)/2)
	for i := 0; i < len(worths); i += 2 {
		out = append(out, worths[i]*16+worths[i+1])
	}
	return string(out), true
}

// worthsOf tells what each figure is worth, a-f only with letters; false when a byte is none.
func worthsOf(text string, letters bool) ([]byte, bool) {
	out := make([]byte, 0, len(text))
eachFigure:
	for i := 0; i < len(text); i++ {
		c := text[i]
		switch {
		case c >= '0' && c <= '9':
			out = append(out, c-'0')
		case letters && c >= 'a' && c <= 'f':
			out = append(out, c-'a'+10)
		default:
			break eachFigure
		}
	}
	return out, len(out) == len(text)
}

// Decimal writes any int in decimal figures.
func Decimal(n int) string {
	return strconv.Itoa(n)
}

// ReadDecimal reads what Decimal writes of a number in 0 .. MaxNumber.
func ReadDecimal(text string) (int, bool) {
	if len(text) > mostFigures {
		return 0, false
	}
	worths, ok := worthsOf(text, false)
	if !ok {
		return 0, false
	}
	n := 0
	for _, worth := range worths {
		n = 10*n + int(worth)
	}
	// Written anew, a number that had needless noughts, or no figure at all, is another text.
	if n > MaxNumber || Decimal(n) != text {
		return 0, false
	}
	return n, true
}

// PartsOf cuts a line at its blanks.
func PartsOf(line string) ([]string, bool) {
	if len(line) > MaxWords || !plainLine(line) {
		return nil, false
	}
	var parts []string
	begin := 0
	for i := 0; i <= len(line); i++ {
		if i < len(line) && line[i] != ' ' {
			continue
		}
		if i > begin {
			parts = append(parts, newText(line[begin:i]))
		}
		begin = i + 1
	}
	if len(parts) > MaxParts {
		return nil, false
	}
	return parts, true
}

// plainLine tells whether a line has printable bytes alone.
func plainLine(line string) bool {
	for i := 0; i < len(line); i++ {
		if line[i] < 32 || line[i] > 126 {
			return false
		}
	}
	return true
}
