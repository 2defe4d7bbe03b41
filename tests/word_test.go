package tests

import (
	"math"
	"testing"

	"loop.example/g00116/impl"
)

type twoWords struct {
	name string
	f    func(w, a, b int) int
}

func twoWordFaces() []twoWords {
	return []twoWords{
		{"Add", impl.Add}, {"Sub", impl.Sub}, {"Mul", impl.Mul}, {"Div", impl.Div}, {"Rem", impl.Rem},
		{"Shl", impl.Shl}, {"Shr", impl.Shr}, {"Less", impl.Less}, {"LessSigned", impl.LessSigned},
	}
}

// power is 2^n by doubling, so that the tests lean on no shift of their own.
func power(n int) int {
	p := 1
	for range n {
		p *= 2
	}
	return p
}

// eachPair calls f at all pairs of words of all widths.
func eachPair(f func(w, a, b int)) {
	for w := 1; w <= impl.MaxWidth; w++ {
		for a := range power(w) {
			for b := range power(w) {
				f(w, a, b)
			}
		}
	}
}

// farNumbers are words of no width, some of them words once they are cut to 8 or 32 bits.
func farNumbers() []int {
	return []int{-1, -2, -255, -256, 256, 257, 512, 1<<16 + 1, 1 << 32, 1<<32 + 1, -1 << 32, math.MinInt, math.MinInt + 1, math.MaxInt, math.MaxInt - 1}
}

// noWidths are numbers that are no widths, some of them widths once they are cut to 8 or 32 bits.
func noWidths() []int {
	return []int{0, -1, -3, -8, impl.MaxWidth + 1, 16, 32, 63, 64, 65, 67, 256, 259, 264, 1<<32 + 3, math.MinInt, math.MinInt + 3, math.MaxInt, math.MaxInt - 1}
}

func noWordsOf(w int) []int { return append(farNumbers(), power(w), power(w)+1) }

func want(t *testing.T, name string, got int, asked int, args ...int) {
	t.Helper()
	if got != asked {
		t.Fatalf("%s%v is %d, not %d", name, args, got, asked)
	}
}

func TestMaxWidth(t *testing.T) {
	want(t, "MaxWidth", impl.MaxWidth, 8)
}

func TestWordOk(t *testing.T) {
	for w := 1; w <= impl.MaxWidth; w++ {
		for a := range power(w) {
			if !impl.WordOk(w, a) {
				t.Errorf("%d is a word of width %d", a, w)
			}
		}
		for _, a := range noWordsOf(w) {
			if impl.WordOk(w, a) {
				t.Errorf("%d is no word of width %d", a, w)
			}
		}
	}
	for _, w := range noWidths() {
		for _, a := range append(farNumbers(), 0, 1, 2, 255) {
			if impl.WordOk(w, a) {
				t.Errorf("%d is no width, but %d is a word of it", w, a)
			}
		}
	}
}

func TestSumsAndProducts(t *testing.T) {
	eachPair(func(w, a, b int) {
		p := power(w)
		want(t, "Add", impl.Add(w, a, b), (a+b)%p, w, a, b)
		want(t, "Sub", impl.Sub(w, a, b), (a+p-b)%p, w, a, b)
		want(t, "Mul", impl.Mul(w, a, b), a*b%p, w, a, b)
	})
}

func TestDifferencesUndoSums(t *testing.T) {
	eachPair(func(w, a, b int) {
		want(t, "Sub of Add", impl.Sub(w, impl.Add(w, a, b), b), a, w, a, b)
		want(t, "Add of Sub", impl.Add(w, impl.Sub(w, a, b), b), a, w, a, b)
	})
}

func TestQuotientAndRest(t *testing.T) {
	eachPair(func(w, a, b int) {
		q, r := impl.Div(w, a, b), impl.Rem(w, a, b)
		want(t, "quotient times divisor and rest", impl.Add(w, impl.Mul(w, q, b), r), a, w, a, b)
		if b == 0 {
			want(t, "Div", q, power(w)-1, w, a, b)
			want(t, "Rem", r, a, w, a, b)
			return
		}
		if r < 0 || r >= b || q*b+r != a {
			t.Fatalf("%d by %d (width %d) is %d, rest %d", a, b, w, q, r)
		}
	})
}

func TestShifts(t *testing.T) {
	eachPair(func(w, a, b int) {
		left, right := 0, 0
		if b < w {
			left, right = a*power(b)%power(w), a/power(b)
			want(t, "Mul by a power", impl.Mul(w, a, power(b)), impl.Shl(w, a, b), w, a, b)
			want(t, "Div by a power", impl.Div(w, a, power(b)), impl.Shr(w, a, b), w, a, b)
		}
		want(t, "Shl", impl.Shl(w, a, b), left, w, a, b)
		want(t, "Shr", impl.Shr(w, a, b), right, w, a, b)
	})
}

func TestShiftsByTheWidthAndMore(t *testing.T) {
	for w := 1; w <= impl.MaxWidth; w++ {
		a := power(w) - 1
		for _, b := range append(farNumbers(), w, w+1, 8, 9, 63, 64, 65, 255) {
			if b >= 0 && b < w {
				continue
			}
			want(t, "Shl", impl.Shl(w, a, b), 0, w, a, b)
			want(t, "Shr", impl.Shr(w, a, b), 0, w, a, b)
		}
	}
}

func TestFlipAndSigned(t *testing.T) {
	for w := 1; w <= impl.MaxWidth; w++ {
		for a := range power(w) {
			want(t, "Flip", impl.Flip(w, a), power(w)-1-a, w, a)
			asked := a
			if a >= power(w-1) {
				asked = a - power(w)
			}
			want(t, "Signed", impl.Signed(w, a), asked, w, a)
		}
	}
}

func TestOrder(t *testing.T) {
	one := map[bool]int{true: 1}
	eachPair(func(w, a, b int) {
		h, p := power(w-1), power(w)
		want(t, "Less", impl.Less(w, a, b), one[a < b], w, a, b)
		want(t, "LessSigned", impl.LessSigned(w, a, b), one[(a+h)%p < (b+h)%p], w, a, b)
	})
}

func TestJoinedWordsComeApart(t *testing.T) {
	for w := 1; w < impl.MaxWidth; w++ {
		for v := 1; w+v <= impl.MaxWidth; v++ {
			for a := range power(w) {
				for b := range power(v) {
					j := impl.Join(w, a, v, b)
					want(t, "Join", j, a*power(v)+b, w, a, v, b)
					want(t, "high Slice of Join", impl.Slice(w+v, j, v, w), a, w, a, v, b)
					want(t, "low Slice of Join", impl.Slice(w+v, j, 0, v), b, w, a, v, b)
				}
			}
		}
	}
}

func TestJoinBeyondMaxWidth(t *testing.T) {
	want(t, "Join", impl.Join(1, 1, 7, 127), 255, 1, 1, 7, 127)
	want(t, "Join", impl.Join(7, 127, 1, 1), 255, 7, 127, 1, 1)
	for w := 1; w <= impl.MaxWidth; w++ {
		for v := impl.MaxWidth + 1 - w; v <= impl.MaxWidth; v++ {
			want(t, "Join", impl.Join(w, 1, v, 1), 0, w, 1, v, 1)
			want(t, "Join", impl.Join(w, 0, v, 1), 0, w, 0, v, 1)
		}
	}
}

func TestSlice(t *testing.T) {
	for w := 1; w <= impl.MaxWidth; w++ {
		for a := range power(w) {
			for low := -3; low <= w+3; low++ {
				for n := -3; n <= w+3; n++ {
					asked := 0
					if low >= 0 && n >= 1 && low+n <= w {
						asked = a / power(low) % power(n)
					}
					want(t, "Slice", impl.Slice(w, a, low, n), asked, w, a, low, n)
				}
			}
		}
	}
}

func TestSliceFarOutside(t *testing.T) {
	for w := 1; w <= impl.MaxWidth; w++ {
		a := power(w) - 1
		for _, x := range farNumbers() {
			want(t, "Slice", impl.Slice(w, a, x, 1), 0, w, a, x, 1)
			want(t, "Slice", impl.Slice(w, a, 0, x), 0, w, a, 0, x)
			for _, y := range farNumbers() {
				want(t, "Slice", impl.Slice(w, a, x, y), 0, w, a, x, y)
			}
		}
	}
}

func TestNumbersThatAreNoWords(t *testing.T) {
	for w := 1; w <= impl.MaxWidth; w++ {
		for _, x := range noWordsOf(w) {
			for a := range power(w) {
				for _, f := range twoWordFaces() {
					want(t, f.name, f.f(w, x, a), 0, w, x, a)
					want(t, f.name, f.f(w, a, x), 0, w, a, x)
				}
			}
			for _, y := range noWordsOf(w) {
				for _, f := range twoWordFaces() {
					want(t, f.name, f.f(w, x, y), 0, w, x, y)
				}
			}
			want(t, "Flip", impl.Flip(w, x), 0, w, x)
			want(t, "Signed", impl.Signed(w, x), 0, w, x)
			want(t, "Slice", impl.Slice(w, x, 0, 1), 0, w, x, 0, 1)
			for v := 1; v <= impl.MaxWidth; v++ {
				want(t, "Join", impl.Join(w, x, v, 1), 0, w, x, v, 1)
				want(t, "Join", impl.Join(v, 1, w, x), 0, v, 1, w, x)
			}
		}
	}
}

func TestWidthsThatAreNone(t *testing.T) {
	for _, w := range noWidths() {
		for _, a := range append(farNumbers(), 0, 1, 2, 7, 128, 255) {
			for _, b := range append(farNumbers(), 0, 1, 3, 255) {
				for _, f := range twoWordFaces() {
					want(t, f.name, f.f(w, a, b), 0, w, a, b)
				}
				want(t, "Slice", impl.Slice(w, a, 0, b), 0, w, a, 0, b)
				want(t, "Slice", impl.Slice(w, a, b, 1), 0, w, a, b, 1)
			}
			want(t, "Flip", impl.Flip(w, a), 0, w, a)
			want(t, "Signed", impl.Signed(w, a), 0, w, a)
			for _, v := range append(noWidths(), 1, 3, impl.MaxWidth) {
				want(t, "Join", impl.Join(w, a, v, 1), 0, w, a, v, 1)
				want(t, "Join", impl.Join(v, 1, w, a), 0, v, 1, w, a)
			}
		}
	}
}
