package impl

import (
	"strconv"
	"strings"
)

const (
	MaxText   = 20000
	MaxNumber = 1000000000
	MaxWords  = 600
	MaxParts  = 10
)

// The longest VarText and the longest Decimal of a number up to MaxNumber: a
// reader that stops there can't run over the range of int.
const (
	maxVarBytes = 5
	maxDecimals = 10
)

const figures = "0123456789abcdef"

func VarText(n int) (string, bool) {
	if n < 0 || n > MaxNumber {
		return "", false
	}
	out := make([]byte, 0, maxVarBytes)
	for n > 127 {
		out = append(out, byte(n%128+128))
		n /= 128
	}
	return string(append(out, byte(n))), true
}

func ReadVar(text string, at int) (int, int, bool) {
	if at < 0 || at > len(text) {
		return 0, 0, false
	}
	n, unit := 0, 1
	for i := at; i < len(text) && i-at < maxVarBytes; i++ {
		b := int(text[i])
		n += b % 128 * unit
		unit *= 128
		if b > 127 {
			continue
		}
		// A last byte of 0 adds nothing: a shorter form tells the same number.
		longer := b == 0 && i > at
		if longer || n > MaxNumber {
			return 0, 0, false
		}
		return n, i + 1, true
	}
	return 0, 0, false
}

func ShortText(s string) (string, bool) {
	if len(s) > MaxText {
		return "", false
	}
	head, ok := VarText(len(s))
	return head + s, ok
}

func ReadShort(text string, at int) (string, int, bool) {
	size, start, ok := ReadVar(text, at)
	if !ok || size > MaxText || size > len(text)-start {
		return "", 0, false
	}
	end := start + size
	// A piece of text would share its memory.
	return strings.Clone(text[start:end]), end, true
}

func Hex(text string) (string, bool) {
	if len(text) > MaxText {
		return "", false
	}
	out := make([]byte, 0, 2*len(text))
	for _, b := range []byte(text) {
		out = append(out, figures[b/16], figures[b%16])
	}
	return string(out), true
}

func Unhex(text string) (string, bool) {
	if len(text)%2 != 0 || len(text)/2 > MaxText {
		return "", false
	}
	values, ok := figureValues(text, 16)
	if !ok {
		return "", false
	}
	out := make([]byte, 0, len(text)/2)
	for i := 0; i < len(values); i += 2 {
		out = append(out, values[i]*16+values[i+1])
	}
	return string(out), true
}

// figureValues tells what each figure of text is worth to a base of at most
// 16, and false when one is no figure of it.
func figureValues(text string, base int) ([]byte, bool) {
	values := make([]byte, 0, len(text))
each:
	for _, b := range []byte(text) {
		for value := range base {
			if figures[value] == b {
				values = append(values, byte(value))
				continue each
			}
		}
		return nil, false
	}
	return values, true
}

func Decimal(n int) string {
	return strconv.Itoa(n)
}

func ReadDecimal(text string) (int, bool) {
	if len(text) == 0 || len(text) > maxDecimals {
		return 0, false
	}
	values, ok := figureValues(text, 10)
	needless := len(text) > 1 && text[0] == '0'
	if !ok || needless {
		return 0, false
	}
	n := 0
	for _, value := range values {
		n = n*10 + int(value)
	}
	if n > MaxNumber {
		return 0, false
	}
	return n, true
}

func PartsOf(line string) ([]string, bool) {
	if len(line) > MaxWords || !plainLine(line) {
		return nil, false
	}
	parts := []string{}
	for _, part := range strings.Split(line, " ") {
		if part == "" {
			continue
		}
		if len(parts) == MaxParts {
			return nil, false
		}
		// A piece of line would share its memory.
		parts = append(parts, strings.Clone(part))
	}
	return parts, true
}

func plainLine(line string) bool {
	for _, b := range []byte(line) {
		if b < 32 || b > 126 {
			return false
		}
	}
	return true
}
