package console

import (
	"strconv"
	"strings"

	"cubbyhole/api"
	"cubbyhole/tick"
)

const (
	maxNumber = 999999999
	digits    = "0123456789abcdef"
	noBytes   = "-"
	none      = "none\n"
	done      = "ok\n"
)

// number returns the number that a word is.
func number(word string) int {
	n, err := strconv.Atoi(word)
	if err != nil || n < 0 || n > maxNumber || strconv.Itoa(n) != word {
		panic(api.ErrFormat)
	}
	return n
}

// time returns the time that a word is.
func time(word string) api.Time {
	if word == tick.Text(api.Never) {
		return api.Never
	}
	return api.Time(number(word))
}

// bytes returns the bytes that a word is.
func bytes(word string) []byte {
	if word == noBytes {
		return nil
	}
	if word == "" || len(word)%2 != 0 {
		panic(api.ErrFormat)
	}
	b := make([]byte, 0, len(word)/2)
	for i := 0; i < len(word); i += 2 {
		high, low := strings.IndexByte(digits, word[i]), strings.IndexByte(digits, word[i+1])
		if high < 0 || low < 0 {
			panic(api.ErrFormat)
		}
		b = append(b, byte(high<<4|low))
	}
	return b
}

// hex returns the word of some bytes.
func hex(b []byte) string {
	if len(b) == 0 {
		return noBytes
	}
	var word strings.Builder
	for _, x := range b {
		word.WriteByte(digits[x>>4])
		word.WriteByte(digits[x&15])
	}
	return word.String()
}

// orNone returns a text, or that there is none.
func orNone(text string) string {
	if text == "" {
		return none
	}
	return text
}

// either returns one of two answers.
func either(so bool, yes, no string) string {
	if so {
		return yes
	}
	return no
}
