package prime_test

import (
	"math"
	"testing"

	"weighbridge/api"
	"weighbridge/prime"
)

// The bounds by their numbers: the greatest number that is looked at, and the least and the greatest size.
const (
	greatest            = 1048576
	leastSize, mostSize = 7, 65537
)

// divisors tells of each number to the greatest one the least divisor from 2 on, by crossing out the multiples of each number that is not crossed out yet; 0 of 0 and 1.
func divisors() []int {
	list := make([]int, greatest+1)
	for by := 2; by <= greatest; by++ {
		if list[by] != 0 {
			continue
		}
		for n := by; n <= greatest; n += by {
			if list[n] == 0 {
				list[n] = by
			}
		}
	}
	return list
}

// below are numbers below all primes, and beyond are numbers above the greatest one that is looked at, primes among them (2^20 + 7, 2^31 - 1 and, of 64 bits, 2^61 - 1).
var (
	below  = []int{1, 0, -1, -2, -3, -7, -11, -65537, -greatest, math.MinInt32, math.MinInt + 1, math.MinInt}
	beyond = []int{greatest + 1, greatest + 2, greatest + 7, greatest + 13, 2 * greatest, 16777213, math.MaxInt32, math.MaxInt >> 2, math.MaxInt - 1, math.MaxInt}
)

// TestDivisorsAreRight holds the tests' own list to the words: how many primes there are to bounds where that is known, and a few by division.
func TestDivisorsAreRight(t *testing.T) {
	least := divisors()
	for bound, want := range map[int]int{10: 4, 100: 25, 1000: 168, 10000: 1229, 100000: 9592, greatest: 82025} {
		n := 0
		for number := 2; number <= bound; number++ {
			if least[number] == number {
				n++
			}
		}
		if n != want {
			t.Errorf("%d primes to %d, not %d", n, bound, want)
		}
	}
	for n := 2; n < 3000; n++ {
		by := 2
		for n%by != 0 {
			by++
		}
		if least[n] != by {
			t.Errorf("%d: %d, not %d", n, least[n], by)
		}
	}
}

// P17.1: Is tells of each number to 2^20 whether it is a prime.
func TestIs(t *testing.T) {
	for n, by := range divisors() {
		if want := n >= 2 && by == n; prime.Is(n) != want {
			t.Errorf("Is(%d): %v", n, !want)
		}
	}
}

// P17.1: no number below 2 is a prime, and none above 2^20 is told to be one.
func TestIsBeyond(t *testing.T) {
	for _, list := range [][]int{below, beyond} {
		for _, n := range list {
			if prime.Is(n) {
				t.Errorf("Is(%d)", n)
			}
		}
	}
}

// P17.1: known primes, and numbers that are none: squares of primes, products of two of them, and those that pass for primes by lesser tests.
func TestIsKnown(t *testing.T) {
	for _, n := range []int{2, 3, 5, 7, 11, 13, 97, 251, 257, 1021, 8191, 65521, 65537, 65539, 131071, 524287, 1048571, 1048573} {
		if !prime.Is(n) {
			t.Errorf("%d is a prime", n)
		}
	}
	for _, n := range []int{0, 1, 4, 9, 15, 25, 49, 91, 341, 561, 1105, 1729, 63001, 65535, 65536, 66049, 251 * 257, 1013 * 1021, 1021 * 1021, 1048574, 1048575, 1048576} {
		if prime.Is(n) {
			t.Errorf("%d is no prime", n)
		}
	}
}

// P17.1: Size tells of each number whether it is a size: primes from 7 to 65537 alone.
func TestSize(t *testing.T) {
	sizes := 0
	for n, by := range divisors() {
		want := n >= leastSize && n <= mostSize && by == n
		if prime.Size(n) != want {
			t.Errorf("Size(%d): %v", n, !want)
		}
		if want {
			sizes++
		}
	}
	if sizes != 6540 { // the primes to 65537 are 6543, three of them below 7
		t.Errorf("%d sizes", sizes)
	}
}

// P17.1: primes just below and above both bounds are no sizes, nor is what is no prime at all.
func TestSizeBounds(t *testing.T) {
	for _, n := range []int{7, 11, 13, 65519, 65521, 65537} {
		if !prime.Size(n) {
			t.Errorf("%d is a size", n)
		}
	}
	for _, n := range []int{2, 3, 4, 5, 6, 8, 9, 65535, 65536, 65538, 65539, 65543, 1048573} {
		if prime.Size(n) {
			t.Errorf("%d is no size", n)
		}
	}
	for _, list := range [][]int{below, beyond} {
		for _, n := range list {
			if prime.Size(n) {
				t.Errorf("%d is no size", n)
			}
		}
	}
}

// next holds what Next tells of a number that has a size at or above it.
func next(t *testing.T, n, want int) {
	t.Helper()
	if size, e := prime.Next(n); size != want || e != api.OK {
		t.Errorf("Next(%d): %d, %d, not %d, 0", n, size, e, want)
	}
}

// over holds what Next tells of a number that has none.
func over(t *testing.T, n int) {
	t.Helper()
	if size, e := prime.Next(n); size != 0 || e != api.ErrOver {
		t.Errorf("Next(%d): %d, %d, not 0, %d", n, size, e, api.ErrOver)
	}
}

// P17.2: Next tells of each number to the greatest size the least size that is at least that number.
func TestNext(t *testing.T) {
	least := divisors()
	want := mostSize
	for n := mostSize; n >= -100; n-- {
		if n >= leastSize && least[n] == n {
			want = n
		}
		next(t, n, want)
	}
}

// P17.2: Next by hand: at sizes, just behind them, and over the widest gaps; primes below 7 are no sizes.
func TestNextKnown(t *testing.T) {
	for _, x := range []struct{ n, want int }{
		{2, 7}, {3, 7}, {5, 7}, {6, 7}, {7, 7}, {8, 11}, {11, 11}, {12, 13}, {24, 29}, {90, 97}, {114, 127}, {256, 257}, {1328, 1361}, {31398, 31469}, {65520, 65521}, {65521, 65521}, {65522, 65537}, {65536, 65537}, {65537, 65537},
	} {
		next(t, x.n, x.want)
	}
}

// P17.2: of all numbers below the least size, however far below, Next tells it.
func TestNextBelow(t *testing.T) {
	for _, n := range below {
		next(t, n, leastSize)
	}
}

// P17.2: there is no size above the greatest one, though there are primes.
func TestNextOver(t *testing.T) {
	for n := mostSize + 1; n < mostSize+1000; n++ {
		over(t, n)
	}
	for _, n := range []int{131071, greatest - 3, greatest - 1, greatest} {
		over(t, n)
	}
	for _, n := range beyond {
		over(t, n)
	}
}

// P17.2: Least tells of each number to 2^20 the least divisor; 0 of 0 and 1.
func TestLeast(t *testing.T) {
	for n, want := range divisors() {
		if by := prime.Least(n); by != want {
			t.Errorf("Least(%d): %d, not %d", n, by, want)
		}
	}
}

// P17.2: Least tells 0 of all numbers that are not looked at.
func TestLeastBeyond(t *testing.T) {
	for _, list := range [][]int{below, beyond} {
		for _, n := range list {
			if by := prime.Least(n); by != 0 {
				t.Errorf("Least(%d): %d", n, by)
			}
		}
	}
}

// P17.2: Least by hand: a divisor may be the number itself, or just its root, and the lesser of two is told.
func TestLeastKnown(t *testing.T) {
	for _, x := range []struct{ n, want int }{
		{2, 2}, {3, 3}, {4, 2}, {5, 5}, {9, 3}, {15, 3}, {25, 5}, {49, 7}, {91, 7}, {97, 97}, {143, 11}, {65535, 3}, {65536, 2}, {65537, 65537}, {251 * 251, 251}, {251 * 257, 251}, {1013 * 1021, 1013}, {1021 * 1021, 1021}, {1048573, 1048573}, {1048574, 2}, {1048575, 3}, {1048576, 2},
	} {
		if by := prime.Least(x.n); by != x.want {
			t.Errorf("Least(%d): %d, not %d", x.n, by, x.want)
		}
	}
}

// What follows: of the numbers that Least looks at, Is holds just of those that are their own least divisors; and all between n and Next of n are no sizes.
func TestWhatFollows(t *testing.T) {
	for n := 2; n <= greatest; n++ {
		if prime.Is(n) != (prime.Least(n) == n) {
			t.Errorf("%d: Is and Least do not agree", n)
		}
	}
	for n := -20; n <= mostSize; n += 13 {
		size, e := prime.Next(n)
		if e != api.OK || size < n || !prime.Size(size) {
			t.Errorf("Next(%d): %d, %d", n, size, e)
		}
		for between := n; between < size; between++ {
			if prime.Size(between) {
				t.Errorf("%d is a size between %d and %d", between, n, size)
			}
		}
	}
}

// The chapter's examples.
func TestExamples(t *testing.T) {
	if !prime.Is(65537) || prime.Is(65535) || prime.Is(1) {
		t.Error("Is")
	}
	next(t, 8, 11)
	over(t, 65538)
	if by := prime.Least(91); by != 7 {
		t.Errorf("Least: %d", by)
	}
}
