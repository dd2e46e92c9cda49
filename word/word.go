// Package word is layer 2: names, keys and values, and which names are
// reserved. See shared/doc/02-word.md.
package word

import (
	"math"
	"strconv"
	"strings"

	"scrim/api"
)

// The reserved names that are used.
const (
	Ghost       = "t-ghost"
	EnterFrom   = "t-enter-from"
	EnterActive = "t-enter-active"
	EnterTo     = "t-enter-to"
	LeaveFrom   = "t-leave-from"
	LeaveActive = "t-leave-active"
	LeaveTo     = "t-leave-to"
	Wait        = "t-wait"
	Hold        = "t-hold"
	Move        = "t-move"
	DX          = "t-dx"
	DY          = "t-dy"
)

// reserved is what every reserved string begins with.
const reserved = "t-"

// maxDigits keeps the value of a number far below the limit of 64 bits while
// it is read.
const maxDigits = 10

// Name: is s a name? It is a key that begins with a letter.
func Name(s string) bool { return Key(s) && letter(s[0]) }

// Key: is s a key?
func Key(s string) bool {
	return len(s) >= 1 && len(s) <= api.MaxName && all(s, ofKey)
}

// Value: is s a value? It may be empty.
func Value(s string) bool { return len(s) <= api.MaxValue && all(s, ofValue) }

// Text: is s a text? It may be empty.
func Text(s string) bool { return len(s) <= api.MaxText && all(s, ofText) }

// Reserved: is s reserved? It need not be a name.
func Reserved(s string) bool { return strings.HasPrefix(s, reserved) }

// Check: may a view use s as a name?
func Check(s string) api.Errno {
	switch {
	case !Name(s):
		return api.ErrForm
	case Reserved(s):
		return api.ErrName
	}
	return api.OK
}

// Number: the number that s is written as, if it is one of 32 bits.
func Number(s string) (int, bool) {
	digits, negative := strings.CutPrefix(s, "-")
	if !plain(digits) || negative && digits == "0" {
		return 0, false
	}
	n := amount(digits)
	if negative {
		n = -n
	}
	if n < math.MinInt32 || n > math.MaxInt32 {
		return 0, false
	}
	return n, true
}

// Digits: n in decimal. It may be beyond 32 bits.
func Digits(n int) string { return strconv.Itoa(n) }

// plain reports whether s has the form of a number without a sign. Each number
// has one form only, so a zero never precedes another digit.
func plain(s string) bool {
	if len(s) < 1 || len(s) > maxDigits || !all(s, digit) {
		return false
	}
	return s[0] != '0' || len(s) == 1
}

func amount(digits string) int {
	n := 0
	for i := range len(digits) {
		n = n*10 + int(digits[i]-'0')
	}
	return n
}

// all looks at bytes, not at runes: the limits are numbers of bytes, and a byte
// beyond 126 is part of nothing.
func all(s string, ok func(byte) bool) bool {
	for i := range len(s) {
		if !ok(s[i]) {
			return false
		}
	}
	return true
}

func letter(b byte) bool { return b >= 'a' && b <= 'z' }

func digit(b byte) bool { return b >= '0' && b <= '9' }

func ofKey(b byte) bool { return letter(b) || digit(b) || b == '-' }

func ofText(b byte) bool { return b >= ' ' && b <= '~' && b != '\'' }

func ofValue(b byte) bool {
	return ofText(b) && b != ' ' && b != '(' && b != ')'
}
