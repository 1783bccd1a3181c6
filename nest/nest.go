// Package nest is layer 1: lists of texts as one text, and numbers as texts.
package nest

import (
	"iter"
	"strconv"
	"strings"

	"wapentake/api"
)

// The document bounds the length's digits for Take alone; a list's text may have as many as an int, or Unpack would not undo Pack for texts of 10^9 bytes.
const (
	takeDigits = 9
	listDigits = 19
)

// Pack is a list's text.
func Pack(l []string) string {
	var b strings.Builder
	for _, text := range l {
		b.WriteString(Num(len(text)))
		b.WriteByte(':')
		b.WriteString(text)
		b.WriteByte(',')
	}
	return b.String()
}

// Unpack is the list that a text is.
func Unpack(s string) ([]string, api.Errno) {
	var l []string
	for text, err := range texts(s) {
		if err != api.OK {
			return nil, err
		}
		l = append(l, text)
	}
	return l, api.OK
}

// Take is the first text, and what is behind.
func Take(s string) (string, string, api.Errno) {
	return first(s, takeDigits)
}

// Num is a number's text.
func Num(n int) string {
	return strconv.Itoa(n)
}

// ToNum is the number that a text is.
func ToNum(s string) (int, api.Errno) {
	n, err := strconv.Atoi(s)
	// Atoi also reads noughts and a plus ahead, which no number's text has.
	if err != nil || Num(n) != s {
		return 0, api.ErrForm
	}
	return n, api.OK
}

// Deep is how deep lists stand in a text. It goes level by level, since a text may be deeper than a stack has room for.
func Deep(s string) int {
	if !isList(s) {
		return 0
	}
	depth := 0
	for lists := []string{s}; len(lists) > 0; lists = inner(lists) {
		depth++
	}
	return depth
}

// inner are the lists, but empty ones, that stand in lists.
func inner(lists []string) []string {
	var found []string
	for _, list := range lists {
		for text := range texts(list) {
			if isList(text) {
				found = append(found, text)
			}
		}
	}
	return found
}

// isList tells whether s is the text of a list that is not empty.
func isList(s string) bool {
	for _, err := range texts(s) {
		if err != api.OK {
			return false
		}
	}
	return s != ""
}

// texts hands on a list's texts one by one; where s is no list's any more, an error comes last.
func texts(s string) iter.Seq2[string, api.Errno] {
	return func(yield func(string, api.Errno) bool) {
		for left := s; left != ""; {
			text, rest, err := first(left, listDigits)
			if !yield(text, err) || err != api.OK {
				return
			}
			left = rest
		}
	}
}

// first is the text that s begins with, of a length of at most so many digits, and what is behind its comma.
func first(s string, digits int) (string, string, api.Errno) {
	colon := strings.IndexByte(s[:min(len(s), digits+1)], ':')
	if colon < 0 {
		return "", "", api.ErrForm
	}
	size, err := ToNum(s[:colon])
	if err != api.OK || size < 0 {
		return "", "", api.ErrForm
	}
	behind := s[colon+1:]
	if size >= len(behind) || behind[size] != ',' {
		return "", "", api.ErrForm
	}
	return behind[:size], behind[size+1:], api.OK
}
