package era

import (
	"math"
	"math/big"
	"testing"

	"horologe/api"
	"horologe/fix"
	"horologe/wide"
)

var (
	greatest = api.Wide{Hi: math.MaxInt64, Lo: math.MaxUint64}
	smallest = api.Wide{Hi: math.MinInt64}
	zero     = api.Wide{}
)

// exact returns the value of a wide number.
func exact(a api.Wide) *big.Int {
	n := new(big.Int).Lsh(big.NewInt(a.Hi), 64)
	return n.Add(n, new(big.Int).SetUint64(a.Lo))
}

// power returns 2^n + d.
func power(n uint, d int64) *big.Int {
	p := new(big.Int).Lsh(big.NewInt(1), n)
	return p.Add(p, big.NewInt(d))
}

// held tells whether n is a wide number.
func held(n *big.Int) bool {
	return n.Cmp(power(127, 0)) < 0 && n.Cmp(new(big.Int).Neg(power(127, 0))) >= 0
}

// number returns n, which is in the range, as a wide number.
func number(n *big.Int) api.Wide {
	// Euclid's remainder is never negative, so that these are the lower bits of a negative number too.
	hi, lo := new(big.Int).DivMod(n, power(64, 0), new(big.Int))
	return api.Wide{Hi: hi.Int64(), Lo: lo.Uint64()}
}

// unfolded returns what P3.1 asks of Unfold, by exact arithmetic over more eras than are needed.
func unfolded(stamp uint64, near api.Wide) api.Wide {
	var best, least *big.Int
	for d := int64(-3); d <= 3; d++ {
		n := new(big.Int).Add(big.NewInt(near.Hi), big.NewInt(d))
		n.Add(n.Lsh(n, 64), new(big.Int).SetUint64(stamp))
		if !held(n) {
			continue
		}
		far := new(big.Int).Sub(n, exact(near))
		far.Abs(far)
		if best == nil || far.Cmp(least) < 0 {
			best, least = n, far
		}
	}
	return number(best)
}

// since returns the exact number of units from 1970 to w.
func since(w api.Wide) *big.Int {
	start := new(big.Int).Lsh(big.NewInt(2208988800), 32)
	return start.Sub(exact(w), start)
}

// mixer yields the same numbers in every run.
type mixer uint64

func (m *mixer) next() uint64 {
	*m += 0x9e3779b97f4a7c15
	z := uint64(*m)
	z = (z ^ z>>30) * 0xbf58476d1ce4e5b9
	z = (z ^ z>>27) * 0x94d049bb133111eb
	return z ^ z>>31
}

// stamps returns stamps at the edges of an era, of its halves and of its seconds, and mixed ones.
func stamps() []uint64 {
	l := []uint64{}
	for _, n := range []uint64{0, 1 << 32, 1 << 62, 1 << 63, 3 << 62} {
		l = append(l, n-2, n-1, n, n+1, n+2)
	}
	m := mixer(1)
	for range 40 {
		l = append(l, m.next())
	}
	return l
}

// eras returns numbers of eras at the edges of the range and around 1900, and mixed ones.
func eras() []int64 {
	l := []int64{math.MinInt64, math.MinInt64 + 1, math.MinInt64 + 2, -2, -1, 0, 1, 2, math.MaxInt64 - 2, math.MaxInt64 - 1, math.MaxInt64}
	m := mixer(2)
	for range 10 {
		l = append(l, int64(m.next())>>(m.next()%64))
	}
	return l
}

// wides returns moments at every edge of every one of the eras.
func wides() []api.Wide {
	l := []api.Wide{}
	for _, hi := range eras() {
		for _, lo := range stamps() {
			l = append(l, api.Wide{Hi: hi, Lo: lo})
		}
	}
	return l
}

// seconds returns numbers of seconds at the edges, and mixed ones.
func seconds() []uint64 {
	l := []uint64{0, 1, 2, 2085978495, 2085978496, 2085978497, 1<<31 - 1, 1 << 31, 1<<32 - 1, 1 << 32, 1<<32 + 1, 1<<63 - 1, 1 << 63, 1<<63 + 1, math.MaxUint64 - 2208988800, math.MaxUint64 - 1, math.MaxUint64}
	m := mixer(3)
	for range 100 {
		l = append(l, m.next()>>(m.next()%64))
	}
	return l
}

// fractions returns units at the edges of a second, and mixed ones.
func fractions() []uint32 {
	l := []uint32{0, 1, 2, 1<<31 - 1, 1 << 31, 1<<31 + 1, math.MaxUint32 - 1, math.MaxUint32}
	m := mixer(4)
	for range 20 {
		l = append(l, uint32(m.next()))
	}
	return l
}

func check(t *testing.T, call string, got, want any, args ...any) {
	t.Helper()
	if got != want {
		t.Errorf("%s %v: got %v, want %v", call, args, got, want)
	}
}

// checkBack holds what Back answers against what it has to.
func checkBack(t *testing.T, w api.Wide, sec uint64, frac uint32, ok bool) {
	t.Helper()
	s, f, o := Back(w)
	if s != sec || f != frac || o != ok {
		t.Errorf("Back %v: got %v, %v, %v, want %v, %v, %v", w, s, f, o, sec, frac, ok)
	}
}

func TestFold(t *testing.T) { // P3.1
	for _, w := range wides() {
		lowest := new(big.Int).Mod(exact(w), power(64, 0))
		check(t, "Fold", Fold(w), lowest.Uint64(), w)
	}
}

func TestNumber(t *testing.T) { // P3.1
	for _, w := range wides() {
		// Euclid's quotient is rounded down, as the divisor is positive.
		n := new(big.Int).Div(exact(w), power(64, 0))
		check(t, "Number", Number(w), n.Int64(), w)
	}
	check(t, "Number at 1900", Number(zero), int64(0))
	check(t, "Number before 1900", Number(wide.Of(-1)), int64(-1))
	check(t, "Number at era 1", Number(fix.Moment(1<<32, 0)), int64(1))
	check(t, "Number before era 1", Number(fix.Moment(1<<32-1, math.MaxUint32)), int64(0))
}

func TestUnfold(t *testing.T) { // P3.1
	for _, near := range wides() {
		for _, stamp := range stamps() {
			check(t, "Unfold", Unfold(stamp, near), unfolded(stamp, near), stamp, near)
		}
		// Half an era away: both ways are equally long.
		stamp := Fold(near) + 1<<63
		check(t, "Unfold", Unfold(stamp, near), unfolded(stamp, near), stamp, near)
		check(t, "Unfold", Unfold(stamp+1, near), unfolded(stamp+1, near), stamp+1, near)
		check(t, "Unfold", Unfold(stamp-1, near), unfolded(stamp-1, near), stamp-1, near)
	}
}

func TestUnfoldAtTheBounds(t *testing.T) { // P3.1
	last, first := api.Wide{Hi: math.MaxInt64}, api.Wide{Hi: math.MinInt64, Lo: math.MaxUint64}
	check(t, "Unfold, no later era", Unfold(0, greatest), last)
	check(t, "Unfold, no earlier era", Unfold(math.MaxUint64, smallest), first)
	check(t, "Unfold, greatest", Unfold(math.MaxUint64, greatest), greatest)
	check(t, "Unfold, smallest", Unfold(0, smallest), smallest)
	check(t, "Unfold, an earlier era", Unfold(math.MaxUint64, last), api.Wide{Hi: math.MaxInt64 - 1, Lo: math.MaxUint64})
	check(t, "Unfold, a later era", Unfold(0, first), api.Wide{Hi: math.MinInt64 + 1})
	check(t, "Unfold, a tie in the last era", Unfold(1<<63, last), api.Wide{Hi: math.MaxInt64 - 1, Lo: 1 << 63})
	check(t, "Unfold, no tie in the first era", Unfold(1<<63, smallest), api.Wide{Hi: math.MinInt64, Lo: 1 << 63})
}

func TestUnix(t *testing.T) { // P3.2
	for _, sec := range seconds() {
		for _, frac := range fractions() {
			n := new(big.Int).Add(new(big.Int).SetUint64(sec), big.NewInt(2208988800))
			n.Add(n.Lsh(n, 32), new(big.Int).SetUint64(uint64(frac)))
			check(t, "Unix", Unix(sec, frac), number(n), sec, frac)
		}
	}
}

func TestBack(t *testing.T) { // P3.2
	end := Unix(math.MaxUint64, math.MaxUint32)
	l := []api.Wide{greatest, smallest, zero, wide.Of(-1), end, wide.Add(end, wide.Of(1)), wide.Add(end, wide.Of(2)), wide.Sub(end, wide.Of(1))}
	start := fix.Moment(api.Unix, 0)
	for d := int64(-3); d <= 3; d++ {
		l = append(l, wide.Add(start, wide.Of(d)), wide.Add(start, wide.Of(d<<32)), wide.Add(end, wide.Of(d<<32)))
	}
	m := mixer(5)
	for range 2000 {
		w := api.Wide{Hi: int64(m.next()), Lo: m.next()}
		for range m.next() % 128 {
			w = wide.Half(w)
		}
		l = append(l, w)
	}
	for _, w := range append(l, wides()...) {
		n := since(w)
		if n.Sign() < 0 || n.Cmp(power(96, 0)) >= 0 {
			checkBack(t, w, 0, 0, false)
			continue
		}
		sec, frac := new(big.Int).DivMod(n, power(32, 0), new(big.Int))
		checkBack(t, w, sec.Uint64(), uint32(frac.Uint64()), true)
	}
}

func TestBackEdges(t *testing.T) { // P3.2
	start := fix.Moment(2208988800, 0)
	checkBack(t, start, 0, 0, true)
	checkBack(t, wide.Sub(start, wide.Of(1)), 0, 0, false)
	checkBack(t, wide.Add(start, api.Wide{Hi: 1<<32 - 1, Lo: math.MaxUint64}), math.MaxUint64, math.MaxUint32, true)
	checkBack(t, wide.Add(start, api.Wide{Hi: 1 << 32}), 0, 0, false)
	checkBack(t, greatest, 0, 0, false)
	checkBack(t, smallest, 0, 0, false)
}

func TestStampKept(t *testing.T) { // P3.3
	for _, near := range wides() {
		for _, stamp := range stamps() {
			check(t, "Fold of Unfold", Fold(Unfold(stamp, near)), stamp, stamp, near)
		}
	}
}

func TestMomentKept(t *testing.T) { // P3.3
	m := mixer(6)
	half := api.Wide{Lo: 1 << 63}
	for _, w := range wides() {
		away := []api.Wide{zero, wide.Of(1), wide.Of(math.MaxInt64), wide.Sub(half, wide.Of(2))}
		for range 5 {
			away = append(away, api.Wide{Lo: m.next() >> 1})
		}
		for _, d := range away {
			check(t, "Unfold of Fold, later", Unfold(Fold(w), wide.Add(w, d)), w, w, d)
			check(t, "Unfold of Fold, earlier", Unfold(Fold(w), wide.Sub(w, d)), w, w, d)
		}
	}
}

func TestUnixKept(t *testing.T) { // P3.3
	for _, sec := range seconds() {
		for _, frac := range fractions() {
			checkBack(t, Unix(sec, frac), sec, frac, true)
		}
	}
}

func TestExamples(t *testing.T) { // P3.1, P3.2
	next := api.Wide{Hi: 1, Lo: 5}
	check(t, "Fold", Fold(next), uint64(5))
	check(t, "Number", Number(next), int64(1))
	check(t, "Number", Number(wide.Of(-1)), int64(-1))
	check(t, "Unfold", Unfold(5, api.Wide{Hi: 1}), next)
	check(t, "Unfold", Unfold(0, api.Wide{Lo: 1 << 63}), zero)
	check(t, "Unfold", Unfold(0, api.Wide{Lo: 1<<63 + 1}), api.Wide{Hi: 1})
	check(t, "Unix", Unix(0, 0), api.Wide{Lo: 2208988800 << 32})
}
