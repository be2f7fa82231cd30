package impl

import (
	"strconv"
	"strings"
)

const (
	maxNumber = 999999
	maxInt    = 999999999999
)

func FormatInt(n int) string { return strconv.Itoa(n) }

func ParseNumber(s string) (n int, ok bool) {
	defer func() {
		if recover() != nil {
			n, ok = 0, false
		}
	}()
	return readInt(s, 0, maxNumber), true
}

func ParseInt(s string) (n int, ok bool) {
	defer func() {
		if recover() != nil {
			n, ok = 0, false
		}
	}()
	return readInt(s, -maxInt, maxInt), true
}

// readInt panics if s is malformed or out of range, so that the exported
// functions refuse it in one place.
func readInt(s string, least int, most int) int {
	n, err := strconv.Atoi(s)
	// Atoi also accepts a plus sign, leading zeros and "-0", which FormatInt never writes.
	if err != nil || FormatInt(n) != s {
		panic("malformed integer")
	}
	if n < least || n > most {
		panic("integer out of range")
	}
	return n
}

func SplitByte(s string, by byte) []string {
	// string(rune(by)) would be two bytes from 128 on.
	return strings.Split(s, string([]byte{by}))
}

func Join(list []string, by string) string { return strings.Join(list, by) }
