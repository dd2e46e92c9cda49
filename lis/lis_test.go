package lis_test

import (
	"math"
	"math/rand"
	"slices"
	"testing"

	"scrim/lis"
)

// rows passes all subsequences of a list, as indices in ascending order, that are
// strictly increasing.
func rows(l []int, pass func([]int)) {
	var grow func(row []int, from int)
	grow = func(row []int, from int) {
		pass(row)
		for i := from; i < len(l); i++ {
			if len(row) == 0 || l[row[len(row)-1]] < l[i] {
				grow(append(slices.Clone(row), i), i+1)
			}
		}
	}
	grow(nil, 0)
}

// better reports whether the document prefers the row a to b: it is longer, or as
// long, and from its end on it first has a lesser number, or the same number at an
// earlier index.
func better(l, a, b []int) bool {
	if len(a) != len(b) {
		return len(a) > len(b)
	}
	for k := len(a) - 1; k >= 0; k-- {
		if l[a[k]] != l[b[k]] {
			return l[a[k]] < l[b[k]]
		}
		if a[k] != b[k] {
			return a[k] < b[k]
		}
	}
	return false
}

// best is Of, spelt out independently of the program: the best of all rows.
func best(l []int) []int {
	var top []int
	rows(l, func(row []int) {
		if better(l, row, top) {
			top = row
		}
	})
	return top
}

// slow is Of as well, for lists that have too many rows: it knows for each index
// how long a row can be that ends there, and looks for each element among all.
func slow(l []int) []int {
	long, most := make([]int, len(l)), 0
	for i := range l {
		long[i] = 1
		for j := range i {
			if l[j] < l[i] {
				long[i] = max(long[i], long[j]+1)
			}
		}
		most = max(most, long[i])
	}
	var row []int
	for after, want := len(l), most; want > 0; want-- {
		least := -1
		for j := range after {
			fits := long[j] == want && (after == len(l) || l[j] < l[after])
			if fits && (least < 0 || l[j] < l[least]) {
				least = j
			}
		}
		row, after = append(row, least), least
	}
	slices.Reverse(row)
	return row
}

func agree(t *testing.T, l, want []int) {
	t.Helper()
	if got := lis.Of(l); !slices.Equal(got, want) {
		t.Fatalf("Of %v is %v, wanted %v", l, got, want)
	}
	if got := lis.Len(l); got != len(want) {
		t.Fatalf("Len of %v is %d, wanted %d", l, got, len(want))
	}
	var rest []int
	for i := range l {
		if !slices.Contains(want, i) {
			rest = append(rest, i)
		}
	}
	if got := lis.Others(l); !slices.Equal(got, rest) {
		t.Fatalf("Others of %v is %v, wanted %v", l, got, rest)
	}
}

// P10.1: the document's example, and the edges.
func TestExamples(t *testing.T) {
	for _, c := range []struct{ l, want []int }{
		{[]int{3, 1, 2, 5, 4}, []int{1, 2, 4}},
		{nil, nil}, {[]int{}, nil}, {[]int{7}, []int{0}}, {[]int{math.MinInt}, []int{0}},
		{[]int{1, 1, 1}, []int{0}}, {[]int{3, 2, 1}, []int{2}}, {[]int{1, 2, 3}, []int{0, 1, 2}},
		{[]int{2, 1, 2, 1}, []int{1, 2}}, {[]int{1, 2, 1, 2}, []int{0, 1}}, {[]int{5, 1, 2, 5, 5}, []int{1, 2, 3}},
		{[]int{0, -1, -1, 0, 0}, []int{1, 3}}, {[]int{1, 3, 2, 2, 4, 4, 3, 3}, []int{0, 2, 6}},
		{[]int{math.MaxInt, math.MinInt, 0, math.MaxInt}, []int{1, 2, 3}},
		{[]int{math.MaxInt, math.MinInt, math.MaxInt, math.MinInt, math.MinInt + 1}, []int{1, 4}},
		{[]int{math.MinInt, math.MaxInt, -1, 1}, []int{0, 2, 3}},
		{[]int{1, 5, 2, 6, 3}, []int{0, 2, 4}}, {[]int{4, 5, 6, 1, 2, 3}, []int{3, 4, 5}}, {[]int{1, 2, 3, -3, -2, -1}, []int{3, 4, 5}},
	} {
		agree(t, c.l, c.want)
		if slow := slow(c.l); !slices.Equal(slow, c.want) {
			t.Errorf("the model says %v of %v", slow, c.l)
		}
	}
}

// P10.1, P10.2: every list of up to seven numbers, of which there are up to four,
// against the best of all its rows; so no row is longer.
func TestAllShortLists(t *testing.T) {
	var grow func(l []int, left int)
	grow = func(l []int, left int) {
		agree(t, l, best(l))
		if left == 0 {
			return
		}
		for x := range 4 {
			grow(append(slices.Clone(l), x-1), left-1)
		}
	}
	grow(nil, 7)
}

// P10.1: longer lists, with few and with many different numbers.
func TestAgainstModel(t *testing.T) {
	r := rand.New(rand.NewSource(10))
	for range 3000 {
		l, span := make([]int, r.Intn(60)), 1+r.Intn(80)
		for i := range l {
			l[i] = r.Intn(span) - span/2
			if r.Intn(20) == 0 {
				l[i] = []int{math.MinInt, math.MaxInt, 1 << 40, -1 << 40}[r.Intn(4)]
			}
		}
		agree(t, l, slow(l))
	}
	for range 300 {
		l := r.Perm(40)
		agree(t, l, slow(l))
	}
}

// P10.2: a list that is split into as many rows that never increase has no longer
// increasing one, for that has at most one element of each. Such rows are found by
// putting each number below the least last one that is not less.
func TestLongest(t *testing.T) {
	r := rand.New(rand.NewSource(11))
	for _, long := range []int{0, 1, 2, 10, 100, 1000, 5000} {
		for _, span := range []int{1, 2, 10, 1000, math.MaxInt} {
			l := make([]int, long)
			for i := range l {
				l[i] = r.Intn(span)
			}
			var lasts []int
			for _, x := range l {
				at := slices.IndexFunc(lasts, func(last int) bool { return last >= x })
				if at < 0 {
					at, lasts = len(lasts), append(lasts, x)
				}
				lasts[at] = x
			}
			row := lis.Of(l)
			if len(row) != len(lasts) || lis.Len(l) != len(lasts) {
				t.Errorf("%d numbers below %d: %d, wanted %d", long, span, len(row), len(lasts))
			}
			for k := 1; k < len(row); k++ {
				if row[k-1] >= row[k] || l[row[k-1]] >= l[row[k]] {
					t.Fatalf("%d numbers below %d: not increasing at %d", long, span, k)
				}
			}
		}
	}
}

// P1: what is passed is not changed, nor its spare capacity, and not kept.
func TestMemory(t *testing.T) {
	l := append(make([]int, 0, 9), 3, 1, 2, 5, 4)
	first, others := lis.Of(l), lis.Others(l)
	lis.Len(l)
	if !slices.Equal(l[:9], []int{3, 1, 2, 5, 4, 0, 0, 0, 0}) {
		t.Errorf("what was passed is %v", l[:9])
	}
	clear(l)
	again := lis.Of([]int{3, 1, 2, 5, 4})
	clear(again)
	if !slices.Equal(first, []int{1, 2, 4}) || !slices.Equal(others, []int{0, 3}) {
		t.Errorf("a change elsewhere made %v and %v", first, others)
	}
}

// P1: long lists of each kind end soon.
func TestLongLists(t *testing.T) {
	const long = 1 << 19
	up, down, flat, saw := make([]int, long), make([]int, long), make([]int, long), make([]int, long)
	for i := range long {
		up[i], down[i], saw[i] = i, -i, i%1000
	}
	for _, c := range []struct {
		what    string
		l       []int
		want, a int
	}{{"up", up, long, 0}, {"down", down, 1, long - 1}, {"flat", flat, 1, 0}, {"saw", saw, 1000, 0}} {
		if row := lis.Of(c.l); len(row) != c.want || row[0] != c.a || lis.Len(c.l) != c.want || len(lis.Others(c.l)) != long-c.want {
			t.Errorf("%s: %d from %d, wanted %d from %d", c.what, len(row), row[0], c.want, c.a)
		}
	}
}
