package word_test

import (
	"math"
	"strings"
	"testing"

	"scrim/api"
	"scrim/word"
)

const (
	letters = "abcdefghijklmnopqrstuvwxyz"
	digits  = "0123456789"
)

// kind is one of the four kinds of strings: how long it may be, and of what it
// may consist, spelt out independently of the program.
type kind struct {
	name        string
	is          func(string) bool
	least, most int
	first, rest func(byte) bool
}

func among(list string) func(byte) bool {
	return func(b byte) bool { return strings.IndexByte(list, b) >= 0 }
}

func between(lo, hi byte, but string) func(byte) bool {
	return func(b byte) bool { return lo <= b && b <= hi && strings.IndexByte(but, b) < 0 }
}

func kinds() []kind {
	ofKey, ofValue, ofText := among(letters+digits+"-"), between(33, 126, "'()"), between(32, 126, "'")
	return []kind{
		{"Name", word.Name, 1, 16, among(letters), ofKey},
		{"Key", word.Key, 1, 16, ofKey, ofKey},
		{"Value", word.Value, 0, 32, ofValue, ofValue},
		{"Text", word.Text, 0, 64, ofText, ofText},
	}
}

// P2.1: lengths, in bytes.
func TestLengths(t *testing.T) {
	for _, k := range kinds() {
		for n := range 70 {
			if got, want := k.is(strings.Repeat("a", n)), n >= k.least && n <= k.most; got != want {
				t.Errorf("%s of %d bytes is %v", k.name, n, got)
			}
		}
	}
}

// P2.1: each byte, alone and at the beginning, in the middle and at the end of
// the longest string.
func TestBytes(t *testing.T) {
	for _, k := range kinds() {
		for b := range 256 {
			c := string([]byte{byte(b)})
			first, rest := k.first(byte(b)), k.rest(byte(b))
			long := strings.Repeat("a", k.most-1)
			for s, want := range map[string]bool{c: first, c + "a": first, c + long: first, "a" + c: rest, "a" + c + "a": rest, long + c: rest} {
				if got := k.is(s); got != want {
					t.Errorf("%s(%q) is %v", k.name, s, got)
				}
			}
		}
	}
}

// P2.1: letters beyond ASCII are several bytes, none of which is permitted.
func TestRunes(t *testing.T) {
	for _, k := range kinds() {
		for _, s := range []string{"\u00e4", "a\u00e4", "a\u0430", "a\U0001f642", "a\xff", "a\xc3", "a\x00"} {
			if k.is(s) {
				t.Errorf("%s(%q) is true", k.name, s)
			}
		}
	}
}

// P2.1: the document's examples.
func TestExamples(t *testing.T) {
	if !word.Name("a-1") || word.Name("1a") || !word.Key("1a") || !word.Key("-") || word.Name("-") {
		t.Error("names and keys")
	}
	if !word.Name("t-x") || !word.Key("t-x") || !word.Value("t-x") || !word.Text("t-x") {
		t.Error("what is reserved is a name, a key, a value and a text as well")
	}
}

// P2.1: the reserved strings that are used, which are names.
func TestReservedNames(t *testing.T) {
	for s, want := range map[string]string{
		word.Ghost: "t-ghost", word.EnterFrom: "t-enter-from", word.EnterActive: "t-enter-active",
		word.EnterTo: "t-enter-to", word.LeaveFrom: "t-leave-from", word.LeaveActive: "t-leave-active",
		word.LeaveTo: "t-leave-to", word.Wait: "t-wait", word.Hold: "t-hold", word.Move: "t-move",
		word.DX: "t-dx", word.DY: "t-dy",
	} {
		if s != want || !word.Name(s) || !word.Reserved(s) || word.Check(s) != api.ErrName {
			t.Errorf("%q, wanted %q", s, want)
		}
	}
}

// P2.1: Reserved asks for the beginning only, of any string.
func TestReserved(t *testing.T) {
	for s, want := range map[string]bool{
		"t-": true, "t-x": true, "t--": true, "t- '": true, "t-\xff": true, "t-" + strings.Repeat("x", 99): true,
		"": false, "t": false, "-": false, "tt-": false, "T-x": false, " t-x": false, "t_x": false, "x-t-": false, "-t-x": false,
	} {
		if word.Reserved(s) != want {
			t.Errorf("Reserved(%q) is %v", s, !want)
		}
	}
}

// P2.1: Check says first that something is not a name, then that it is reserved.
func TestCheck(t *testing.T) {
	for s, want := range map[string]api.Errno{
		"t": api.OK, "a": api.OK, "a-1": api.OK, "tt-": api.OK, strings.Repeat("a", 16): api.OK,
		"t-": api.ErrName, "t-x": api.ErrName, "t-1": api.ErrName, "t-" + strings.Repeat("x", 14): api.ErrName,
		"": api.ErrForm, "1a": api.ErrForm, "-a": api.ErrForm, "a.b": api.ErrForm, "A": api.ErrForm, strings.Repeat("a", 17): api.ErrForm,
		"t-.": api.ErrForm, "t-X": api.ErrForm, "t-" + strings.Repeat("x", 15): api.ErrForm,
	} {
		if got := word.Check(s); got != want {
			t.Errorf("Check(%q) is %d, wanted %d", s, got, want)
		}
	}
}

// P2.1: what is a number.
func TestNumber(t *testing.T) {
	for s, want := range map[string]int{
		"0": 0, "1": 1, "9": 9, "10": 10, "-1": -1, "-10": -10, "100200300": 100200300, "1000000000": 1000000000,
		"2147483647": 2147483647, "2147483646": 2147483646, "-2147483647": -2147483647, "-2147483648": -2147483648,
	} {
		if n, ok := word.Number(s); n != want || !ok {
			t.Errorf("Number(%q) is %d %v", s, n, ok)
		}
	}
}

// P2.1: what is none; the value is 0 then.
func TestNoNumber(t *testing.T) {
	for _, s := range []string{
		"", "-", "--", "--1", "-0", "00", "01", "-01", "007", "0000000000", "0000000001", "+1", "1-", "1-1", "-1-",
		"2147483648", "-2147483649", "4294967296", "4294967297", "9999999999", "-9999999999", "10000000000", "12345678901",
		"18446744073709551616", "18446744073709551617", "00000000001", "-00000000001",
		"x", "1x", "x1", "1x1", "0x1", "1_0", "1.0", "1e3", " 1", "1 ", "- 1", "1\n", "\x00", "1\x00", "1/", "1:", "\u0661", "\xff",
		strings.Repeat("1", 1<<20), "-" + strings.Repeat("9", 1<<20),
	} {
		if n, ok := word.Number(s); n != 0 || ok {
			t.Errorf("Number(%.40q) is %d %v", s, n, ok)
		}
	}
}

// P2.1: each byte in each place of a number.
func TestNumberBytes(t *testing.T) {
	for b := range 256 {
		c := string([]byte{byte(b)})
		digit := b >= '0' && b <= '9'
		for s, want := range map[string]bool{c: digit, "1" + c: digit, "1" + c + "1": digit, "-1" + c: digit, c + "1": digit && b != '0' || b == '-'} {
			if _, ok := word.Number(s); ok != want {
				t.Errorf("Number(%q) is %v", s, ok)
			}
		}
	}
}

// P2.1: Digits is not limited to 32 bits.
func TestDigits(t *testing.T) {
	for n, want := range map[int]string{
		0: "0", 7: "7", -7: "-7", 10: "10", -100: "-100", 2147483648: "2147483648", -2147483649: "-2147483649",
		api.MaxClock: "1099511627776", math.MaxInt64: "9223372036854775807", math.MinInt64: "-9223372036854775808",
	} {
		if got := word.Digits(n); got != want {
			t.Errorf("Digits(%d) is %q", n, got)
		}
	}
}

// P2.2: what is written is read back, if it has 32 bits; otherwise it is not a number.
func TestWrittenAndReadBack(t *testing.T) {
	back := func(n int) {
		t.Helper()
		want := n
		fits := n >= math.MinInt32 && n <= math.MaxInt32
		if !fits {
			want = 0
		}
		if got, ok := word.Number(word.Digits(n)); got != want || ok != fits {
			t.Errorf("%d is read back as %d %v", n, got, ok)
		}
	}
	for n := -12000; n <= 12000; n++ {
		back(n)
	}
	for p := 1; p < math.MaxInt64/10; p *= 10 {
		for d := -2; d <= 2; d++ {
			back(p + d)
			back(-p + d)
		}
	}
	for shift := range 63 {
		for d := -2; d <= 2; d++ {
			back(1<<shift + d)
			back(-1<<shift + d)
		}
	}
}

// P2.2: of all short strings, exactly those that Digits writes are numbers.
func TestReadAndWrittenBack(t *testing.T) {
	written := map[string]bool{}
	for n := -999; n <= 9999; n++ {
		written[word.Digits(n)] = true
	}
	const bytes = "-0123456789 +a"
	for list := []string{""}; len(list[0]) < 4; {
		var longer []string
		for _, s := range list {
			for i := range len(bytes) {
				longer = append(longer, s+bytes[i:i+1])
			}
		}
		for _, s := range longer {
			n, ok := word.Number(s)
			if ok != written[s] || ok && word.Digits(n) != s {
				t.Errorf("%q is read as %d %v", s, n, ok)
			}
		}
		list = longer
	}
}

// P1: strings of any length and any bytes are accepted.
func TestAnyString(t *testing.T) {
	for _, piece := range []string{"a", "1", "-", "t-", "'", "\x00", "\xff", "\u00e4", "(", " "} {
		s := strings.Repeat(piece, 1<<20)
		if word.Name(s) || word.Key(s) || word.Value(s) || word.Text(s) {
			t.Errorf("%q many times is something", piece)
		}
		if word.Check(s) != api.ErrForm || word.Reserved(s) != (piece == "t-") {
			t.Errorf("%q many times is checked wrongly", piece)
		}
		if n, ok := word.Number(s); n != 0 || ok {
			t.Errorf("%q many times is a number", piece)
		}
	}
}
