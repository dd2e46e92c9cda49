package sat_test

import (
	"math"
	"math/big"
	"testing"

	"scrim/api"
	"scrim/sat"
)

const tick = api.MaxClock

// edges returns numbers around every limit that the document names, and around
// those of 64 bits, where a careless sum or product wraps round.
func edges() []int {
	var l []int
	for _, x := range []int{0, 7, 46341, 65536, sat.Most, math.MaxUint32, tick, 3037000500, math.MaxInt64 - 2} {
		for d := range 5 {
			l = append(l, x+d-2, -x+d-2)
		}
	}
	return append(l, math.MinInt64, math.MinInt64+1, math.MinInt64+2)
}

func limited(x, lo, hi *big.Int) *big.Int {
	if x.Cmp(lo) < 0 {
		return lo
	}
	if x.Cmp(hi) > 0 {
		return hi
	}
	return x
}

// bounded is Sat of a number of any size.
func bounded(x *big.Int) *big.Int {
	return limited(x, big.NewInt(-1<<31), big.NewInt(1<<31-1))
}

func bounds(x int) *big.Int { return bounded(big.NewInt(int64(x))) }

func same(t *testing.T, what string, got int, want *big.Int, args ...int) {
	t.Helper()
	if big.NewInt(int64(got)).Cmp(want) != 0 {
		t.Errorf("%s%v is %d, wanted %v", what, args, got, want)
	}
}

// floored rounds down. Div of package big rounds up if the divisor is negative,
// so both numbers are negated then.
func floored(x, y *big.Int) *big.Int {
	if y.Sign() < 0 {
		x, y = new(big.Int).Neg(x), new(big.Int).Neg(y)
	}
	return new(big.Int).Div(x, y)
}

func TestLimits(t *testing.T) {
	if sat.Most != 1<<31-1 || sat.Least != -1<<31 {
		t.Errorf("the limits are %d and %d", sat.Most, sat.Least)
	}
}

// P1.1 and P1, for functions of one number.
func TestOfOne(t *testing.T) {
	for _, a := range edges() {
		same(t, "Sat", sat.Sat(a), bounds(a), a)
		same(t, "Neg", sat.Neg(a), bounded(new(big.Int).Neg(bounds(a))), a)
	}
}

// P1.1 and P1, for functions of two numbers.
func TestOfTwo(t *testing.T) {
	for _, a := range edges() {
		for _, b := range edges() {
			x, y := bounds(a), bounds(b)
			same(t, "Add", sat.Add(a, b), bounded(new(big.Int).Add(x, y)), a, b)
			same(t, "Sub", sat.Sub(a, b), bounded(new(big.Int).Sub(x, y)), a, b)
			same(t, "Mul", sat.Mul(a, b), bounded(new(big.Int).Mul(x, y)), a, b)
			same(t, "Sum", sat.Sum(a, b), bounded(new(big.Int).Add(x, y)), a, b)
			quotient, rest := new(big.Int), new(big.Int)
			if b != 0 {
				q := floored(x, y)
				quotient, rest = bounded(q), rest.Sub(x, new(big.Int).Mul(y, q))
			}
			same(t, "Div", sat.Div(a, b), quotient, a, b)
			same(t, "Mod", sat.Mod(a, b), rest, a, b)
		}
	}
}

// P1.1: what the document says in so many words.
func TestExamples(t *testing.T) {
	for _, c := range []struct {
		what      string
		got, want int
	}{
		{"Add(Most, 5)", sat.Add(sat.Most, 5), sat.Most},
		{"Add beyond 32 bits", sat.Add(sat.Most+9, -1), sat.Most - 1},
		{"Sub(Least, 1)", sat.Sub(sat.Least, 1), sat.Least},
		{"Sub beyond 32 bits", sat.Sub(sat.Least-9, -1), sat.Least + 1},
		{"Mul(-65536, 65536)", sat.Mul(-65536, 65536), sat.Least},
		{"Mul(46341, 46341)", sat.Mul(46341, 46341), sat.Most},
		{"Neg(Least)", sat.Neg(sat.Least), sat.Most},
		{"Neg(Most)", sat.Neg(sat.Most), -sat.Most},
		{"Div(7, 2)", sat.Div(7, 2), 3},
		{"Div(-7, 2)", sat.Div(-7, 2), -4},
		{"Div(7, -2)", sat.Div(7, -2), -4},
		{"Div(-7, -2)", sat.Div(-7, -2), 3},
		{"Div(-8, 2)", sat.Div(-8, 2), -4},
		{"Div(Least, -1)", sat.Div(sat.Least, -1), sat.Most},
		{"Div(5, 0)", sat.Div(5, 0), 0},
		{"Mod(-7, 2)", sat.Mod(-7, 2), 1},
		{"Mod(7, -2)", sat.Mod(7, -2), -1},
		{"Mod(-7, -2)", sat.Mod(-7, -2), -1},
		{"Mod(-8, 2)", sat.Mod(-8, 2), 0},
		{"Mod(Least, -1)", sat.Mod(sat.Least, -1), 0},
		{"Mod(5, 0)", sat.Mod(5, 0), 0},
		{"Mod(-5, 0)", sat.Mod(-5, 0), 0},
	} {
		if c.got != c.want {
			t.Errorf("%s is %d, wanted %d", c.what, c.got, c.want)
		}
	}
}

// P1.1: Sum saturates at each step, in order, and accepts any number of numbers.
func TestSum(t *testing.T) {
	for _, c := range []struct {
		list []int
		want int
	}{
		{nil, 0},
		{[]int{}, 0},
		{[]int{5}, 5},
		{[]int{1, -2, 4}, 3},
		{[]int{sat.Most, 1, -1}, sat.Most - 1},
		{[]int{-1, sat.Most, 1}, sat.Most},
		{[]int{sat.Least, -1, 1}, sat.Least + 1},
		{[]int{math.MaxInt64, math.MaxInt64, math.MinInt64}, -1},
		{[]int{math.MinInt64}, sat.Least},
	} {
		if got := sat.Sum(c.list...); got != c.want {
			t.Errorf("Sum%v is %d, wanted %d", c.list, got, c.want)
		}
	}
	if sat.Sum() != 0 || sat.Sum(1, 2, 3) != 6 {
		t.Error("Sum of what is passed one by one")
	}
}

// Rule 5: the list that is passed stays as it is.
func TestSumLeavesItsList(t *testing.T) {
	l := []int{math.MaxInt64, 1, -1, 8}
	sat.Sum(l[:3]...)
	if l[0] != math.MaxInt64 || l[1] != 1 || l[2] != -1 || l[3] != 8 {
		t.Errorf("the list is %v afterwards", l)
	}
}

// P1.1: Clip is not limited to 32 bits, and lo wins if hi is less.
func TestClip(t *testing.T) {
	for _, x := range edges() {
		for _, lo := range edges() {
			for _, hi := range []int{math.MinInt64, -8, 0, 9, sat.Most + 1, math.MaxInt64} {
				want := x
				switch {
				case hi < lo || x < lo:
					want = lo
				case x > hi:
					want = hi
				}
				if got := sat.Clip(x, lo, hi); got != want {
					t.Errorf("Clip(%d, %d, %d) is %d, wanted %d", x, lo, hi, got, want)
				}
			}
		}
	}
}

// P1.1: Later adds what is not negative, up to the last tick.
func TestLater(t *testing.T) {
	for _, c := range [][3]int{
		{0, 0, 0}, {3, 4, 7}, {-5, 7, 7}, {7, -5, 7}, {-5, -7, 0},
		{tick - 1, 1, tick}, {tick - 1, 2, tick}, {tick, 0, tick}, {tick - 2, 1, tick - 1},
		{0, tick, tick}, {0, tick + 1, tick}, {tick + 5, 0, tick}, {tick + 5, -9, tick},
		{sat.Most, 1, sat.Most + 1}, {math.MaxInt64, math.MaxInt64, tick},
		{1, math.MaxInt64, tick}, {math.MinInt64, 6, 6}, {6, math.MinInt64, 6},
		{math.MinInt64, math.MinInt64, 0}, {math.MaxInt64, math.MinInt64, tick},
	} {
		if got := sat.Later(c[0], c[1]); got != c[2] {
			t.Errorf("Later(%d, %d) is %d, wanted %d", c[0], c[1], got, c[2])
		}
	}
	last, zero := big.NewInt(1<<40), new(big.Int)
	for _, a := range edges() {
		for _, b := range edges() {
			x := limited(big.NewInt(int64(a)), zero, big.NewInt(math.MaxInt64))
			y := limited(big.NewInt(int64(b)), zero, big.NewInt(math.MaxInt64))
			same(t, "Later", sat.Later(a, b), limited(new(big.Int).Add(x, y), zero, last), a, b)
		}
	}
}

// P1.2: from any clock on, no step leads back, and none leads beyond the last
// tick or away from it.
func TestClocksGoOn(t *testing.T) {
	for _, start := range edges() {
		now := sat.Later(start, 0)
		for _, d := range edges() {
			next := sat.Later(now, d)
			if next < now || next > tick || now == tick && next != tick {
				t.Fatalf("Later(%d, %d) is %d", now, d, next)
			}
			now = next
		}
	}
}
