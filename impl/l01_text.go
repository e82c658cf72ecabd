package impl

import (
	"iter"
	"strconv"
	"strings"
)

const MaxText = 4000

// maxDec is the greatest number that ReadDec tells.
const maxDec = 999999999

const hexDigits = "0123456789abcdef"

func DecText(n int) string { return strconv.Itoa(n) }

func ReadDec(s string) int {
	n, err := strconv.Atoi(s)
	if err != nil || n < 0 || n > maxDec {
		return -1
	}
	// Atoi also takes a sign and needless noughts, which DecText never writes.
	if DecText(n) != s {
		return -1
	}
	return n
}

func HexText(s string) string {
	digits := make([]byte, 0, 2*len(s))
	for i := range len(s) {
		digits = append(digits, hexDigits[s[i]>>4], hexDigits[s[i]&15])
	}
	return string(digits)
}

func ReadHex(s string) (string, bool) {
	if len(s)%2 != 0 {
		return "", false
	}
	text := make([]byte, 0, len(s)/2)
	for i := 0; i < len(s); i += 2 {
		high, low := hexDigit(s[i]), hexDigit(s[i+1])
		if high < 0 || low < 0 {
			return "", false
		}
		text = append(text, byte(high<<4|low))
	}
	return string(text), true
}

// hexDigit tells the number of a digit that HexText writes, -1 of any other byte.
func hexDigit(c byte) int { return strings.IndexByte(hexDigits, c) }

func Lines(s string) []string {
	if s == "" {
		return nil
	}
	lines := strings.Split(s, "\n")
	for i, line := range lines {
		// A part of s would share its memory.
		lines[i] = strings.Clone(line)
	}
	return lines
}

func Words(s string) []string {
	var words []string
	for word := range wordsIn(s) {
		// A part of s would share its memory.
		words = append(words, strings.Clone(word))
	}
	return words
}

// wordsIn tells the words of s, in order, as parts of s.
func wordsIn(s string) iter.Seq[string] {
	return func(yield func(string) bool) {
		at := 0
	scan:
		for {
			// The break needs the label: without it only the switch would be left.
			switch size := wordSize(s[at:]); {
			case at == len(s):
				break scan
			case size == 0:
				at++
			case !yield(s[at : at+size]):
				break scan
			default:
				at += size
			}
		}
	}
}

// wordSize tells how many bytes of s stand ahead of its first blank or byte 9.
func wordSize(s string) int {
	for i := range len(s) {
		if s[i] == ' ' || s[i] == '\t' {
			return i
		}
	}
	return len(s)
}
