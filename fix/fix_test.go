package fix

import (
	"math"
	"math/big"
	"testing"

	"horologe/api"
	"horologe/wide"
)

var (
	greatest = api.Wide{Hi: math.MaxInt64, Lo: math.MaxUint64}
	smallest = api.Wide{Hi: math.MinInt64}
	zero     = api.Wide{}
)

// exact returns the value of a wide number.
func exact(a api.Wide) *big.Int {
	n := new(big.Int).Lsh(big.NewInt(a.Hi), 64)
	return n.Add(n, new(big.Int).SetUint64(a.Lo))
}

// power returns 2^n + d.
func power(n uint, d int64) *big.Int {
	p := new(big.Int).Lsh(big.NewInt(1), n)
	return p.Add(p, big.NewInt(d))
}

// within returns n, or the nearest one of the numbers of that many bits, sign included.
func within(n *big.Int, bits uint) *big.Int {
	if most := power(bits-1, -1); n.Cmp(most) > 0 {
		return most
	}
	if least := new(big.Int).Neg(power(bits-1, 0)); n.Cmp(least) < 0 {
		return least
	}
	return n
}

// saturated returns n as a wide number, or the bound that it lies beyond.
func saturated(n *big.Int) api.Wide {
	// Euclid's remainder is never negative, so that these are the lower bits of a negative number too.
	hi, lo := new(big.Int).DivMod(within(n, 128), power(64, 0), new(big.Int))
	return api.Wide{Hi: hi.Int64(), Lo: lo.Uint64()}
}

// mixer yields the same numbers in every run.
type mixer uint64

func (m *mixer) next() uint64 {
	*m += 0x9e3779b97f4a7c15
	z := uint64(*m)
	z = (z ^ z>>30) * 0xbf58476d1ce4e5b9
	z = (z ^ z>>27) * 0x94d049bb133111eb
	return z ^ z>>31
}

// wide returns a number of any length and sign.
func (m *mixer) wide() api.Wide {
	a := api.Wide{Hi: int64(m.next()), Lo: m.next()}
	for range m.next() % 128 {
		a = wide.Half(a)
	}
	return a
}

// below returns a number from 0 to n - 1.
func (m *mixer) below(n uint64) uint64 {
	return m.next() % n
}

// near returns a moment within some 2^40 seconds of 1900.
func (m *mixer) near() api.Wide {
	return Moment(int64(m.next())>>23, uint32(m.next()))
}

// wides returns numbers at the edges of the range, of its words and of the seconds, and mixed ones.
func wides() []api.Wide {
	l := []api.Wide{}
	for _, n := range []uint{0, 1, 31, 32, 33, 62, 63, 64, 94, 95, 96, 126, 127} {
		for d := int64(-2); d <= 2; d++ {
			p := power(n, d)
			l = append(l, saturated(p), saturated(new(big.Int).Neg(p)))
		}
	}
	m := mixer(1)
	for range 100 {
		l = append(l, m.wide())
	}
	return l
}

// seconds returns int64s at the edges, and mixed ones.
func seconds() []int64 {
	l := []int64{0, 1, -1, 2, -2, api.Unix, -api.Unix, math.MaxInt32, math.MinInt32, 1<<32 - 1, 1 << 32, -1 << 32, math.MaxInt64, math.MaxInt64 - 1, math.MinInt64, math.MinInt64 + 1}
	m := mixer(2)
	for range 50 {
		l = append(l, int64(m.next())>>m.below(64))
	}
	return l
}

// fractions returns units at the edges of a second, and mixed ones.
func fractions() []uint32 {
	l := []uint32{0, 1, 2, 3, 5, 1<<16 - 1, 1 << 16, 1<<31 - 1, 1 << 31, 1<<31 + 1, math.MaxUint32 - 1, math.MaxUint32}
	m := mixer(3)
	for range 50 {
		l = append(l, uint32(m.next())>>m.below(32))
	}
	return l
}

// parts returns the valid numbers of parts at the edges, the usual ones, and mixed ones.
func parts() []uint64 {
	l := []uint64{1, 2, 3, 7, 10, 100, 1000, 1e6, 1e9, 1e10, 1e11, 1e12, 1<<16 - 1, 1 << 16, 1<<31 + 1, 1<<32 - 1, 1 << 32, 1<<32 + 1, 1 << 39, MaxDen - 1, MaxDen}
	m := mixer(4)
	for range 60 {
		l = append(l, 1+m.below(MaxDen)>>m.below(40))
	}
	return l
}

// wrongs returns numbers of parts that are not valid.
func wrongs() []uint64 {
	return []uint64{0, MaxDen + 1, MaxDen + 2, 2 * MaxDen, 1<<63 - 1, 1 << 63, math.MaxUint64 - 1, math.MaxUint64}
}

// numerators returns numbers below den at the edges, and mixed ones.
func numerators(den uint64) []uint64 {
	l := []uint64{0, den / 3, den / 2, den - 1}
	for _, n := range []uint64{1, 2, den - 2} {
		if n < den {
			l = append(l, n)
		}
	}
	m := mixer(den)
	for range 40 {
		l = append(l, m.below(den))
	}
	return l
}

func check(t *testing.T, call string, got, want any, args ...any) {
	t.Helper()
	if got != want {
		t.Errorf("%s %v: got %v, want %v", call, args, got, want)
	}
}

func TestMoment(t *testing.T) { // P2.1
	for _, sec := range seconds() {
		for _, frac := range fractions() {
			want := new(big.Int).Mul(big.NewInt(sec), power(32, 0))
			want.Add(want, big.NewInt(int64(frac)))
			check(t, "Moment", Moment(sec, frac), saturated(want), sec, frac)
		}
	}
	check(t, "Moment", Moment(0, 0), zero)
	check(t, "Moment", Moment(1, 0), api.Wide{Lo: 1 << 32})
	check(t, "Moment", Moment(0, math.MaxUint32), api.Wide{Lo: math.MaxUint32})
	check(t, "Moment", Moment(-1, math.MaxUint32), wide.Of(-1))
	check(t, "Moment", Moment(1<<32, 7), api.Wide{Hi: 1, Lo: 7})
	check(t, "Moment", Moment(math.MinInt64, 0), api.Wide{Hi: math.MinInt32})
	check(t, "Moment", Moment(math.MaxInt64, math.MaxUint32), api.Wide{Hi: math.MaxInt32, Lo: math.MaxUint64})
}

func TestSplit(t *testing.T) { // P2.1
	for _, w := range wides() {
		// The divisor is positive, so Euclid's division rounds down.
		quotient, rest := new(big.Int).DivMod(exact(w), power(32, 0), new(big.Int))
		sec, frac := Split(w)
		check(t, "Split seconds", sec, within(quotient, 64).Int64(), w)
		check(t, "Split units", frac, uint32(rest.Uint64()), w)
		check(t, "Split units", frac, uint32(w.Lo), w)
	}
}

func TestSplitEdges(t *testing.T) { // P2.1
	for _, c := range []struct {
		w    api.Wide
		sec  int64
		frac uint32
	}{
		{zero, 0, 0},
		{wide.Of(-1), -1, math.MaxUint32},
		{wide.Of(-1 << 32), -1, 0},
		{wide.Of(-1<<32 - 1), -2, math.MaxUint32},
		{wide.Of(1<<32 - 1), 0, math.MaxUint32},
		{wide.Of(1 << 32), 1, 0},
		{api.Wide{Hi: math.MaxInt32, Lo: math.MaxUint64}, math.MaxInt64, math.MaxUint32},
		{api.Wide{Hi: 1 << 31}, math.MaxInt64, 0},
		{api.Wide{Hi: 1 << 31, Lo: 9}, math.MaxInt64, 9},
		{api.Wide{Hi: math.MinInt32}, math.MinInt64, 0},
		{api.Wide{Hi: math.MinInt32 - 1, Lo: math.MaxUint64 - 3}, math.MinInt64, math.MaxUint32 - 3},
		{greatest, math.MaxInt64, math.MaxUint32},
		{smallest, math.MinInt64, 0},
		{wide.Add(smallest, wide.Of(5)), math.MinInt64, 5},
	} {
		sec, frac := Split(c.w)
		check(t, "Split seconds", sec, c.sec, c.w)
		check(t, "Split units", frac, c.frac, c.w)
	}
}

func TestShort(t *testing.T) { // P2.1
	for s, span := range map[uint32]int64{0: 0, 1: 1 << 16, 1 << 15: 1 << 31, 1 << 16: 1 << 32, 3 << 16: 3 << 32, 1 << 31: 1 << 47, math.MaxUint32: math.MaxUint32 << 16} {
		check(t, "Short", Short(s), span, s)
	}
	for _, s := range fractions() {
		check(t, "Short", Short(s), int64(s)*65536, s)
	}
}

func TestFrac(t *testing.T) { // P2.2
	for _, den := range parts() {
		divisor := new(big.Int).SetUint64(den)
		for _, n := range numerators(den) {
			want, rest := new(big.Int).DivMod(new(big.Int).Lsh(new(big.Int).SetUint64(n), 32), divisor, new(big.Int))
			if rest.Sign() != 0 {
				want.Add(want, big.NewInt(1))
			}
			if most := power(32, -1); want.Cmp(most) > 0 {
				want = most
			}
			frac, ok := Frac(n, den)
			check(t, "Frac", uint64(frac), want.Uint64(), n, den)
			check(t, "Frac", ok, true, n, den)
		}
	}
}

func TestFracEdges(t *testing.T) { // P2.2
	for _, c := range []struct {
		n, den uint64
		frac   uint32
	}{
		{0, 1, 0}, {0, MaxDen, 0}, {1, 2, 1 << 31}, {1, 3, 1431655766}, {2, 3, 2863311531}, {1, 1000, 4294968}, {999999999, 1000000000, 4294967292},
		{1, 1 << 32, 1}, {1<<32 - 1, 1 << 32, math.MaxUint32}, {1, MaxDen, 1}, {256, MaxDen, 1}, {257, MaxDen, 2},
		{MaxDen - 256, MaxDen, math.MaxUint32},
		// The minimum would be a whole second.
		{MaxDen - 255, MaxDen, math.MaxUint32}, {MaxDen - 1, MaxDen, math.MaxUint32}, {1 << 32, 1<<32 + 1, math.MaxUint32},
	} {
		frac, ok := Frac(c.n, c.den)
		check(t, "Frac", frac, c.frac, c.n, c.den)
		check(t, "Frac", ok, true, c.n, c.den)
	}
}

func TestFracOfWrong(t *testing.T) { // P2.2
	refuse := func(n, den uint64) {
		t.Helper()
		frac, ok := Frac(n, den)
		check(t, "Frac", frac, uint32(0), n, den)
		check(t, "Frac", ok, false, n, den)
	}
	for _, den := range wrongs() {
		for _, n := range []uint64{0, 1, den / 2, den - 1, den, den + 1, math.MaxUint64} {
			refuse(n, den)
		}
	}
	for _, den := range parts() {
		for _, n := range []uint64{den, den + 1, 2 * den, 1 << 63, math.MaxUint64} {
			refuse(n, den)
		}
	}
}

func TestParts(t *testing.T) { // P2.2
	for _, den := range parts() {
		for _, frac := range fractions() {
			want := new(big.Int).Mul(big.NewInt(int64(frac)), new(big.Int).SetUint64(den))
			n, ok := Parts(frac, den)
			check(t, "Parts", n, want.Rsh(want, 32).Uint64(), frac, den)
			check(t, "Parts", ok, true, frac, den)
		}
	}
}

func TestPartsEdges(t *testing.T) { // P2.2
	for _, c := range []struct {
		frac uint32
		den  uint64
		n    uint64
	}{
		{0, 1, 0}, {math.MaxUint32, 1, 0}, {1 << 31, 2, 1}, {1<<31 - 1, 2, 0}, {1 << 31, 1000, 500}, {1431655765, 3, 0}, {1431655766, 3, 1},
		{math.MaxUint32, 1 << 32, math.MaxUint32}, {1, MaxDen, 256}, {math.MaxUint32, MaxDen, MaxDen - 256}, {1, MaxDen - 1, 255},
	} {
		n, ok := Parts(c.frac, c.den)
		check(t, "Parts", n, c.n, c.frac, c.den)
		check(t, "Parts", ok, true, c.frac, c.den)
	}
}

func TestPartsOfWrong(t *testing.T) { // P2.2
	for _, den := range wrongs() {
		for _, frac := range fractions() {
			n, ok := Parts(frac, den)
			check(t, "Parts", n, uint64(0), frac, den)
			check(t, "Parts", ok, false, frac, den)
		}
	}
}

func TestMaxDen(t *testing.T) { // P2.2
	check(t, "MaxDen", uint64(MaxDen), uint64(1099511627776))
}

// minus returns a - b, saturated.
func minus(a, b *big.Int) *big.Int {
	return within(new(big.Int).Sub(a, b), 128)
}

// offset returns what P2.3 says that Offset returns.
func offset(t1, t2, t3, t4 api.Wide) int64 {
	there, back := minus(exact(t2), exact(t1)), minus(exact(t3), exact(t4))
	sum := within(new(big.Int).Add(there, back), 128)
	return within(sum.Rsh(sum, 1), 64).Int64() // Rsh rounds down
}

// delay returns what P2.3 says that Delay returns.
func delay(t1, t2, t3, t4 api.Wide) int64 {
	away, held := minus(exact(t4), exact(t1)), minus(exact(t3), exact(t2))
	return within(minus(away, held), 64).Int64()
}

func TestOffsetAndDelay(t *testing.T) { // P2.3
	edges := []api.Wide{smallest, wide.Add(smallest, wide.Of(1)), {Hi: math.MinInt64 / 2}, wide.Of(math.MinInt64), wide.Of(-1), zero, wide.Of(1), wide.Of(2), wide.Of(math.MaxInt64), {Lo: 1 << 63}, {Hi: 1 << 62}, wide.Sub(greatest, wide.Of(1)), greatest}
	for _, t1 := range edges {
		for _, t2 := range edges {
			for _, t3 := range edges {
				for _, t4 := range edges {
					check(t, "Offset", Offset(t1, t2, t3, t4), offset(t1, t2, t3, t4), t1, t2, t3, t4)
					check(t, "Delay", Delay(t1, t2, t3, t4), delay(t1, t2, t3, t4), t1, t2, t3, t4)
				}
			}
		}
	}
	m := mixer(5)
	for range 20000 {
		t1, t2, t3, t4 := m.wide(), m.wide(), m.wide(), m.wide()
		check(t, "Offset", Offset(t1, t2, t3, t4), offset(t1, t2, t3, t4), t1, t2, t3, t4)
		check(t, "Delay", Delay(t1, t2, t3, t4), delay(t1, t2, t3, t4), t1, t2, t3, t4)
	}
}

func TestOffsetEdges(t *testing.T) { // P2.3
	one := wide.Of(1)
	for _, c := range []struct {
		t1, t2, t3, t4 api.Wide
		offset         int64
	}{
		{zero, zero, zero, zero, 0},
		{zero, one, zero, zero, 0},
		{one, zero, zero, zero, -1},
		{zero, zero, zero, one, -1},
		{zero, zero, zero, wide.Of(3), -2},
		// The sum lies beyond the bounds of int64, its half within them.
		{zero, api.Wide{Lo: 1 << 63}, wide.Of(math.MaxInt64 - 1), zero, math.MaxInt64},
		{zero, api.Wide{Lo: 1 << 63}, wide.Of(math.MaxInt64 - 2), zero, math.MaxInt64 - 1},
		{zero, api.Wide{Lo: 1 << 63}, api.Wide{Lo: 1 << 63}, zero, math.MaxInt64},
		{zero, wide.Of(math.MinInt64), wide.Of(math.MinInt64), zero, math.MinInt64},
		{one, wide.Of(math.MinInt64), wide.Of(math.MinInt64), zero, math.MinInt64},
		// The first difference saturates, then the second one, then their sum.
		{smallest, greatest, zero, greatest, 0},
		{greatest, smallest, greatest, zero, -1},
		{zero, greatest, smallest, greatest, -1},
		{smallest, zero, smallest, one, -1},
		{zero, greatest, greatest, zero, math.MaxInt64},
		{greatest, zero, zero, greatest, math.MinInt64},
	} {
		check(t, "Offset", Offset(c.t1, c.t2, c.t3, c.t4), c.offset, c.t1, c.t2, c.t3, c.t4)
	}
}

func TestDelayEdges(t *testing.T) { // P2.3
	one := wide.Of(1)
	for _, c := range []struct {
		t1, t2, t3, t4 api.Wide
		delay          int64
	}{
		{zero, zero, zero, zero, 0},
		{zero, zero, zero, one, 1},
		{zero, zero, one, zero, -1},
		{one, zero, zero, zero, -1},
		{zero, one, zero, zero, 1},
		{zero, zero, zero, api.Wide{Lo: 1 << 63}, math.MaxInt64},
		{zero, zero, one, api.Wide{Lo: 1 << 63}, math.MaxInt64},
		{zero, zero, api.Wide{Lo: 1 << 63}, zero, math.MinInt64},
		{one, zero, api.Wide{Lo: 1 << 63}, zero, math.MinInt64},
		// The first difference saturates, then the second one, then their difference.
		{smallest, zero, greatest, greatest, 0},
		{zero, smallest, greatest, greatest, 0},
		{greatest, greatest, zero, smallest, -1},
		{zero, greatest, zero, greatest, math.MaxInt64},
		{greatest, zero, greatest, zero, math.MinInt64},
	} {
		check(t, "Delay", Delay(c.t1, c.t2, c.t3, c.t4), c.delay, c.t1, c.t2, c.t3, c.t4)
	}
}

func TestMomentCanBeSplit(t *testing.T) { // P2.4
	for _, sec := range seconds() {
		for _, frac := range fractions() {
			s, f := Split(Moment(sec, frac))
			check(t, "Split of Moment: seconds", s, sec, sec, frac)
			check(t, "Split of Moment: units", f, frac, sec, frac)
		}
	}
}

func TestPartsUndoesFrac(t *testing.T) { // P2.4
	for _, den := range parts() {
		if den > 1<<32 {
			continue
		}
		for _, n := range numerators(den) {
			frac, _ := Frac(n, den)
			back, ok := Parts(frac, den)
			check(t, "Parts of Frac", back, n, n, den)
			check(t, "Parts of Frac", ok, true, n, den)
		}
	}
}

func TestFracUndoesParts(t *testing.T) { // P2.4
	for _, den := range parts() {
		if den < 1<<32 {
			continue
		}
		for _, frac := range fractions() {
			n, _ := Parts(frac, den)
			back, ok := Frac(n, den)
			check(t, "Frac of Parts", back, frac, frac, den)
			check(t, "Frac of Parts", ok, true, frac, den)
		}
	}
}

// exchange returns the moments of an exchange, with spans of less than 2^60 from the first one, so that nothing is clipped.
func (m *mixer) exchange() (t1, t2, t3, t4 api.Wide) {
	t1 = m.near()
	at := func() api.Wide { return wide.Add(t1, wide.Of(m.span())) }
	return t1, at(), at(), at()
}

// span returns a span of any sign and of less than 2^60.
func (m *mixer) span() int64 {
	return int64(m.next()) >> (4 + m.below(60))
}

func TestMomentsAdvance(t *testing.T) { // P2.4
	m := mixer(6)
	for range 5000 {
		t1, t2, t3, t4 := m.exchange()
		amount := m.near()
		later := func(w api.Wide) api.Wide { return wide.Add(w, amount) }
		check(t, "Offset of all later", Offset(later(t1), later(t2), later(t3), later(t4)), Offset(t1, t2, t3, t4), t1, t2, t3, t4, amount)
		check(t, "Delay of all later", Delay(later(t1), later(t2), later(t3), later(t4)), Delay(t1, t2, t3, t4), t1, t2, t3, t4, amount)
	}
}

func TestServerAdvances(t *testing.T) { // P2.4
	m := mixer(7)
	for range 5000 {
		t1, t2, t3, t4 := m.exchange()
		amount := m.span()
		later := func(w api.Wide) api.Wide { return wide.Add(w, wide.Of(amount)) }
		check(t, "Offset of the server's later", Offset(t1, later(t2), later(t3), t4), Offset(t1, t2, t3, t4)+amount, t1, t2, t3, t4, amount)
		check(t, "Delay of the server's later", Delay(t1, later(t2), later(t3), t4), Delay(t1, t2, t3, t4), t1, t2, t3, t4, amount)
	}
}

func TestExamples(t *testing.T) { // the chapter's
	sec, units := Split(Moment(-1, 5))
	check(t, "Split", sec, int64(-1))
	check(t, "Split", units, uint32(5))
	for _, c := range []struct {
		n, den uint64
		frac   uint32
		ok     bool
	}{{1, 2, 2147483648, true}, {1, 3, 1431655766, true}, {3, 3, 0, false}} {
		frac, ok := Frac(c.n, c.den)
		check(t, "Frac", frac, c.frac, c.n, c.den)
		check(t, "Frac", ok, c.ok, c.n, c.den)
	}
	n, ok := Parts(2147483648, 1000)
	check(t, "Parts", n, uint64(500))
	check(t, "Parts", ok, true)
	check(t, "Offset", Offset(zero, wide.Of(10), wide.Of(14), wide.Of(20)), int64(2))
	check(t, "Delay", Delay(zero, wide.Of(10), wide.Of(14), wide.Of(20)), int64(16))
}
