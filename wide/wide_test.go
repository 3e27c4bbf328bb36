package wide

import (
	"math"
	"math/big"
	"testing"

	"horologe/api"
)

var (
	greatest = api.Wide{Hi: math.MaxInt64, Lo: math.MaxUint64}
	smallest = api.Wide{Hi: math.MinInt64}
)

// exact returns the value of a wide number.
func exact(a api.Wide) *big.Int {
	n := new(big.Int).Lsh(big.NewInt(a.Hi), 64)
	return n.Add(n, new(big.Int).SetUint64(a.Lo))
}

// power returns 2^n + d.
func power(n uint, d int64) *big.Int {
	p := new(big.Int).Lsh(big.NewInt(1), n)
	return p.Add(p, big.NewInt(d))
}

// saturated returns n as a wide number, or the bound that it lies beyond.
func saturated(n *big.Int) api.Wide {
	if n.Cmp(power(127, -1)) > 0 {
		return greatest
	}
	if n.Cmp(new(big.Int).Neg(power(127, 0))) < 0 {
		return smallest
	}
	// Euclid's remainder is never negative, so that these are the lower bits of a negative number too.
	hi, lo := new(big.Int).DivMod(n, power(64, 0), new(big.Int))
	return api.Wide{Hi: hi.Int64(), Lo: lo.Uint64()}
}

// mixer yields the same numbers in every run, of all lengths and both signs.
type mixer uint64

func (m *mixer) next() uint64 {
	*m += 0x9e3779b97f4a7c15
	z := uint64(*m)
	z = (z ^ z>>30) * 0xbf58476d1ce4e5b9
	z = (z ^ z>>27) * 0x94d049bb133111eb
	return z ^ z>>31
}

func (m *mixer) wide() api.Wide {
	a := api.Wide{Hi: int64(m.next()), Lo: m.next()}
	for range m.next() % 128 {
		a = Half(a)
	}
	return a
}

// wides returns numbers at the edges of the range and of its words, and mixed ones.
func wides() []api.Wide {
	l := []api.Wide{}
	for _, n := range []uint{0, 1, 2, 3, 31, 32, 33, 62, 63, 64, 65, 94, 95, 96, 125, 126, 127} {
		for d := int64(-3); d <= 3; d++ {
			p := power(n, d)
			l = append(l, saturated(p), saturated(new(big.Int).Neg(p)))
		}
	}
	m := mixer(1)
	for range 60 {
		l = append(l, m.wide())
	}
	return l
}

// shorts returns int64s at the edges, and mixed ones.
func shorts() []int64 {
	l := []int64{0, 1, -1, 2, -2, 3, -3, 10, -10, math.MaxInt32, math.MinInt32, math.MaxInt64, math.MaxInt64 - 1, math.MinInt64, math.MinInt64 + 1}
	m := mixer(2)
	for range 40 {
		l = append(l, int64(m.next())>>(m.next()%64))
	}
	return l
}

// divisors returns uint64s at the edges, and mixed ones; 0 is not among them.
func divisors() []uint64 {
	l := []uint64{1, 2, 3, 5, 7, 10, 1<<32 - 1, 1 << 32, 1<<32 + 1, 1<<63 - 1, 1 << 63, 1<<63 + 1, math.MaxUint64 - 1, math.MaxUint64}
	m := mixer(3)
	for range 40 {
		l = append(l, m.next()>>(m.next()%64)|1)
	}
	return l
}

func check(t *testing.T, call string, got, want any, args ...any) {
	t.Helper()
	if got != want {
		t.Errorf("%s %v: got %v, want %v", call, args, got, want)
	}
}

func TestOf(t *testing.T) { // P1.1
	for _, n := range shorts() {
		check(t, "Of", Of(n), saturated(big.NewInt(n)), n)
	}
	check(t, "Of", Of(-1), api.Wide{Hi: -1, Lo: math.MaxUint64}, -1)
	check(t, "Of", Of(math.MinInt64), api.Wide{Hi: -1, Lo: 1 << 63}, "least")
}

func TestSums(t *testing.T) { // P1.1
	for _, a := range wides() {
		for _, b := range wides() {
			check(t, "Add", Add(a, b), saturated(new(big.Int).Add(exact(a), exact(b))), a, b)
			check(t, "Sub", Sub(a, b), saturated(new(big.Int).Sub(exact(a), exact(b))), a, b)
			check(t, "Cmp", Cmp(a, b), exact(a).Cmp(exact(b)), a, b)
		}
	}
}

func TestSigns(t *testing.T) { // P1.1
	for _, a := range wides() {
		check(t, "Neg", Neg(a), saturated(new(big.Int).Neg(exact(a))), a)
		check(t, "Abs", Abs(a), saturated(new(big.Int).Abs(exact(a))), a)
	}
}

func TestSumsSaturate(t *testing.T) { // P1.1
	one, minus := Of(1), Of(-1)
	check(t, "Add", Add(greatest, one), greatest)
	check(t, "Add", Add(greatest, greatest), greatest)
	check(t, "Add", Add(smallest, minus), smallest)
	check(t, "Add", Add(smallest, smallest), smallest)
	check(t, "Add", Add(greatest, smallest), minus)
	check(t, "Sub", Sub(smallest, one), smallest)
	check(t, "Sub", Sub(greatest, minus), greatest)
	check(t, "Sub", Sub(smallest, greatest), smallest)
	check(t, "Sub", Sub(greatest, smallest), greatest)
	check(t, "Sub", Sub(smallest, smallest), Of(0))
	check(t, "Sub", Sub(minus, smallest), greatest)
	check(t, "Sub", Sub(Of(0), smallest), greatest)
	check(t, "Neg", Neg(smallest), greatest)
	check(t, "Neg", Neg(greatest), Add(smallest, one))
	check(t, "Abs", Abs(smallest), greatest)
}

func TestMul(t *testing.T) { // P1.2
	for _, a := range shorts() {
		for _, b := range shorts() {
			check(t, "Mul", Mul(a, b), saturated(new(big.Int).Mul(big.NewInt(a), big.NewInt(b))), a, b)
		}
	}
	check(t, "Mul", Mul(math.MinInt64, math.MinInt64), api.Wide{Hi: 1 << 62})
	check(t, "Mul", Mul(math.MinInt64, 1), Of(math.MinInt64))
	check(t, "Mul", Mul(0, -5), Of(0))
}

func TestScale(t *testing.T) { // P1.2
	for _, a := range wides() {
		for _, n := range []uint32{0, 1, 2, 3, 10, 1<<16 - 1, 1 << 16, math.MaxInt32, 1 << 31, math.MaxUint32 - 1, math.MaxUint32} {
			check(t, "Scale", Scale(a, n), saturated(new(big.Int).Mul(exact(a), big.NewInt(int64(n)))), a, n)
		}
	}
	check(t, "Scale", Scale(smallest, 0), Of(0))
	check(t, "Scale", Scale(smallest, 1), smallest)
	check(t, "Scale", Scale(smallest, 2), smallest)
	check(t, "Scale", Scale(smallest, math.MaxUint32), smallest)
	check(t, "Scale", Scale(greatest, 1), greatest)
	check(t, "Scale", Scale(greatest, 2), greatest)
	check(t, "Scale", Scale(greatest, math.MaxUint32), greatest)
	check(t, "Scale", Scale(api.Wide{Hi: math.MinInt64 / 2}, 2), smallest)
	third := api.Wide{Hi: 0x5555555555555555, Lo: math.MaxUint64} // the lower word alone carries the product over 2^128
	check(t, "Scale", Scale(third, 3), greatest)
	check(t, "Scale", Scale(Neg(third), 3), smallest)
	check(t, "Scale", Scale(api.Wide{Hi: math.MaxInt64/2 + 1}, 2), greatest)
}

func TestHalf(t *testing.T) { // P1.2
	for _, a := range wides() {
		check(t, "Half", Half(a), saturated(new(big.Int).Rsh(exact(a), 1)), a)
	}
	for n, half := range map[int64]int64{0: 0, 1: 0, 2: 1, 3: 1, -1: -1, -2: -1, -3: -2, -4: -2} {
		check(t, "Half", Half(Of(n)), Of(half), n)
	}
	check(t, "Half", Half(smallest), api.Wide{Hi: math.MinInt64 / 2})
	check(t, "Half", Half(api.Wide{Hi: 1}), api.Wide{Lo: 1 << 63})
}

func TestDiv(t *testing.T) { // P1.3
	for _, a := range wides() {
		for _, n := range divisors() {
			// The divisor is positive, so Euclid's division rounds down.
			quotient, rest := new(big.Int).DivMod(exact(a), new(big.Int).SetUint64(n), new(big.Int))
			q, r, ok := Div(a, n)
			check(t, "Div quotient", q, saturated(quotient), a, n)
			check(t, "Div remainder", r, rest.Uint64(), a, n)
			check(t, "Div", ok, true, a, n)
		}
	}
}

func TestDivSmall(t *testing.T) { // P1.3
	for _, c := range []struct {
		a    int64
		n    uint64
		q    int64
		rest uint64
	}{
		{7, 2, 3, 1}, {-7, 2, -4, 1}, {-8, 2, -4, 0}, {0, 9, 0, 0}, {-1, math.MaxUint64, -1, math.MaxUint64 - 1}, {5, math.MaxUint64, 0, 5}, {-1, 1, -1, 0},
	} {
		q, r, ok := Div(Of(c.a), c.n)
		if q != Of(c.q) || r != c.rest || !ok {
			t.Errorf("Div(%d, %d): %v, %d, %v", c.a, c.n, q, r, ok)
		}
	}
}

func TestDivByZero(t *testing.T) { // P1.3
	for _, a := range wides() {
		if q, r, ok := Div(a, 0); q != (api.Wide{}) || r != 0 || ok {
			t.Errorf("Div(%v, 0): %v, %d, %v", a, q, r, ok)
		}
	}
}

func TestClip(t *testing.T) { // P1.3
	for _, a := range wides() {
		want := exact(a)
		if want.Cmp(power(63, -1)) > 0 {
			want = power(63, -1)
		}
		if want.Cmp(big.NewInt(math.MinInt64)) < 0 {
			want = big.NewInt(math.MinInt64)
		}
		check(t, "Clip", Clip(a), want.Int64(), a)
	}
	for _, n := range shorts() {
		check(t, "Clip", Clip(Of(n)), n)
	}
	check(t, "Clip", Clip(api.Wide{Lo: 1 << 63}), int64(math.MaxInt64))
	check(t, "Clip", Clip(api.Wide{Hi: -1, Lo: 1<<63 - 1}), int64(math.MinInt64))
	check(t, "Clip", Clip(greatest), int64(math.MaxInt64))
	check(t, "Clip", Clip(smallest), int64(math.MinInt64))
}

func TestRoot(t *testing.T) { // P1.3
	for _, a := range wides() {
		if negative(a) {
			check(t, "Root", Root(a), uint64(0), a)
			continue
		}
		check(t, "Root", Root(a), new(big.Int).Sqrt(exact(a)).Uint64(), a)
	}
	for n, root := range map[int64]uint64{0: 0, 1: 1, 3: 1, 4: 2, 24: 4, 25: 5, -1: 0, -4: 0, -25: 0} {
		check(t, "Root", Root(Of(n)), root, n)
	}
	check(t, "Root", Root(smallest), uint64(0))
	check(t, "Root", Root(greatest), uint64(13043817825332782212))
}

func TestRootOfSquares(t *testing.T) { // P1.3
	for _, n := range shorts() {
		if n <= 0 {
			continue
		}
		square := Mul(n, n)
		check(t, "Root", Root(square), uint64(n), n)
		check(t, "Root", Root(Sub(square, Of(1))), uint64(n-1), n)
		check(t, "Root", Root(Add(square, Of(1))), uint64(n), n)
	}
}

// fits reports whether the sum of a and b is within the range.
func fits(a, b api.Wide) bool {
	n := new(big.Int).Add(exact(a), exact(b))
	return exact(saturated(n)).Cmp(n) == 0
}

func TestSumsCanBeUndone(t *testing.T) { // P1.4
	for _, a := range wides() {
		for _, b := range wides() {
			check(t, "Add in either order", Add(a, b), Add(b, a), a, b)
			if fits(a, b) {
				check(t, "Sub of Add", Sub(Add(a, b), b), a, a, b)
				check(t, "Sub of Add", Sub(Add(a, b), a), b, a, b)
			}
		}
	}
}

func TestSumsOfThree(t *testing.T) { // P1.4
	m := mixer(4)
	for range 20000 {
		a, b, c := m.wide(), m.wide(), m.wide()
		if fits(a, b) && fits(b, c) && fits(Add(a, b), c) {
			check(t, "Add in either grouping", Add(Add(a, b), c), Add(a, Add(b, c)), a, b, c)
		}
		if fits(a, c) && fits(b, c) {
			check(t, "Cmp of sums", Cmp(Add(a, c), Add(b, c)), Cmp(a, b), a, b, c)
		}
	}
}

func TestDivCanBeUndone(t *testing.T) { // P1.4
	for _, a := range wides() {
		for _, n := range []uint32{1, 2, 3, 7, 10, 1 << 31, math.MaxUint32} {
			q, r, ok := Div(a, uint64(n))
			if !ok || r >= uint64(n) {
				t.Errorf("Div(%v, %d): %v, %d, %v", a, n, q, r, ok)
			}
			// The product with a negative quotient may lie below the range, though the sum does not.
			sum := new(big.Int).Mul(exact(q), big.NewInt(int64(n)))
			check(t, "quotient times divisor, plus remainder", saturated(sum.Add(sum, new(big.Int).SetUint64(r))), a, a, n)
		}
	}
}

func TestExamples(t *testing.T) { // the chapter's
	check(t, "Add", Add(greatest, Of(1)), greatest)
	check(t, "Neg", Neg(smallest), greatest)
	check(t, "Half", Half(Of(-3)), Of(-2))
	q, r, ok := Div(Of(-7), 2)
	check(t, "Div", q, Of(-4))
	check(t, "Div", r, uint64(1))
	check(t, "Div", ok, true)
	_, _, ok = Div(Of(7), 0)
	check(t, "Div", ok, false)
	check(t, "Mul", Mul(math.MinInt64, math.MinInt64), saturated(power(126, 0)))
	check(t, "Root", Root(Of(24)), uint64(4))
	check(t, "Root", Root(Of(25)), uint64(5))
	check(t, "Root", Root(Of(-4)), uint64(0))
}
