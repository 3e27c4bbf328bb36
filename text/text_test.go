package text

import (
	"bytes"
	"math"
	"math/big"
	"math/rand/v2"
	"slices"
	"strings"
	"testing"

	"horologe/api"
)

// power returns base^n.
func power(base, n int64) *big.Int {
	return new(big.Int).Exp(big.NewInt(base), big.NewInt(n), nil)
}

// bounds returns the least and the greatest number of a signed type.
func bounds(bits int64) (least, greatest *big.Int) {
	half := power(2, bits-1)
	return new(big.Int).Neg(half), new(big.Int).Sub(half, big.NewInt(1))
}

// within tells whether n is from least to greatest.
func within(n, least, greatest *big.Int) bool {
	return n.Cmp(least) >= 0 && n.Cmp(greatest) <= 0
}

// exact returns the value of a wide number.
func exact(w api.Wide) *big.Int {
	n := new(big.Int).Mul(big.NewInt(w.Hi), power(2, 64))
	return n.Add(n, new(big.Int).SetUint64(w.Lo))
}

// numbers returns numbers at the edges of all types and of all lengths, on both sides, and mixed ones; some are in no range.
func numbers() []*big.Int {
	l := []*big.Int{}
	edge := func(p *big.Int) {
		for d := int64(-3); d <= 3; d++ {
			n := new(big.Int).Add(p, big.NewInt(d))
			l = append(l, n, new(big.Int).Neg(n))
		}
	}
	for n := range int64(131) {
		edge(power(2, n))
	}
	for n := range int64(42) {
		for d := int64(1); d <= 9; d++ {
			edge(new(big.Int).Mul(power(10, n), big.NewInt(d)))
		}
	}
	random := rand.New(rand.NewPCG(4, 1))
	for range 20000 {
		n := exact(api.Wide{Hi: int64(random.Uint64()), Lo: random.Uint64()})
		l = append(l, n.Rsh(n, uint(random.IntN(128))))
	}
	return l
}

// check holds every parser and every formatter of numbers against s, the string of n; nil is no number.
func check(t *testing.T, s string, n *big.Int) {
	t.Helper()
	least, greatest := bounds(64)
	got, ok := Undec(s)
	if want := n != nil && within(n, least, greatest); ok != want || !want && got != 0 || want && (got != n.Int64() || Dec(got) != s) {
		t.Errorf("Undec(%q): %d, %v; Dec of it: %s", s, got, ok, Dec(got))
	}
	natural, ok := Ununsigned(s)
	if want := n != nil && n.IsUint64(); ok != want || !want && natural != 0 || want && (natural != n.Uint64() || Unsigned(natural) != s) {
		t.Errorf("Ununsigned(%q): %d, %v; Unsigned of it: %s", s, natural, ok, Unsigned(natural))
	}
	least, greatest = bounds(128)
	w, ok := UndecWide(s)
	if want := n != nil && within(n, least, greatest); ok != want || !want && w != (api.Wide{}) || want && (exact(w).Cmp(n) != 0 || DecWide(w) != s) {
		t.Errorf("UndecWide(%q): %v, %v; DecWide of it: %s", s, w, ok, DecWide(w))
	}
}

func TestDec(t *testing.T) { // P4.1
	for n, s := range map[int64]string{0: "0", 7: "7", -5: "-5", 10: "10", -10: "-10", 1900: "1900", math.MaxInt64: "9223372036854775807", math.MinInt64: "-9223372036854775808"} {
		if got := Dec(n); got != s {
			t.Errorf("Dec(%d): %q", n, got)
		}
	}
}

func TestUnsigned(t *testing.T) { // P4.1
	for n, s := range map[uint64]string{0: "0", 7: "7", 100: "100", 1 << 63: "9223372036854775808", math.MaxUint64: "18446744073709551615"} {
		if got := Unsigned(n); got != s {
			t.Errorf("Unsigned(%d): %q", n, got)
		}
	}
}

func TestDecWide(t *testing.T) { // P4.2
	for w, s := range map[api.Wide]string{
		{}:                         "0",
		{Hi: -1, Lo: 1<<64 - 7}:    "-7",
		{Lo: 1 << 63}:              "9223372036854775808",
		{Hi: -1, Lo: 1<<63 - 1}:    "-9223372036854775809",
		{Hi: 1}:                    "18446744073709551616",
		{Hi: -1}:                   "-18446744073709551616",
		{Lo: 9999999999999999999}:  "9999999999999999999",
		{Lo: 10000000000000000000}: "10000000000000000000",
		{Hi: -1, Lo: 1<<64 - 10000000000000000000}: "-10000000000000000000",
		{Hi: math.MaxInt64, Lo: math.MaxUint64}:    "170141183460469231731687303715884105727",
		{Hi: math.MinInt64, Lo: 1}:                 "-170141183460469231731687303715884105727",
		{Hi: math.MinInt64}:                        "-170141183460469231731687303715884105728",
	} {
		if got := DecWide(w); got != s {
			t.Errorf("DecWide(%v): %q, want %q", w, got, s)
		}
	}
}

func TestNumbers(t *testing.T) { // P4.1, P4.2, P4.4
	for _, n := range numbers() {
		check(t, n.String(), n)
	}
}

func TestNotationsThatAreNoStrings(t *testing.T) { // P4.1, P4.2, P4.4
	for _, n := range numbers()[:4000] {
		s := n.String()
		digits := strings.TrimPrefix(s, "-")
		for _, other := range []string{"0" + s, "-0" + digits, "+" + digits, " " + s, s + " ", s + "-", "--" + digits, s + ".", s + ".0", s + "e0", s + "\n", s + "\x00", "\x00" + s, "_" + s, s + "_", "0x" + s, s + "a", s + "é", s + "\xff"} {
			check(t, other, nil)
		}
		if n.Sign() == 0 {
			check(t, "-"+s, nil)
		}
	}
	// The last of the runes are digits of other scripts, or have a digit's code as their lowest byte.
	for _, s := range []string{"", "-", "--", "+", " ", ".", "-a", "a", "f", "A", "/", ":", "1_000", "1,000", "1e3", "0b1", "é", "\xff", "\xb0", "٣", "１", "-１", "İ", "\U00010030"} {
		check(t, s, nil)
	}
}

func TestLongStrings(t *testing.T) { // P4.1, P4.2
	for _, n := range []int{38, 39, 40, 41, 42, 100, 1 << 14} {
		for _, s := range []string{strings.Repeat("9", n), strings.Repeat("0", n), strings.Repeat("0", n) + "1", "-" + strings.Repeat("9", n), "-" + strings.Repeat("0", n), "-" + strings.Repeat("0", n) + "1", strings.Repeat("-", n), strings.Repeat("-", n) + "1"} {
			want, ok := new(big.Int).SetString(s, 10)
			if !ok || want.String() != s {
				want = nil
			}
			check(t, s, want)
		}
	}
}

func TestShortStrings(t *testing.T) { // P4.1, P4.2, P4.4
	letters := []string{"", "0", "1", "8", "9", "-", "+", " ", "a", "f", "A", "_", "/", ":", "\x00", "\xff", "é"}
	for _, a := range letters {
		for _, b := range letters {
			for _, c := range letters {
				s := a + b + c
				n, ok := new(big.Int).SetString(s, 10)
				if !ok || n.String() != s {
					n = nil
				}
				check(t, s, n)
			}
		}
	}
}

// pair returns the string of a byte, digit by digit.
func pair(n int) string {
	const digits = "0123456789abcdef"
	return string(digits[n/16]) + string(digits[n%16])
}

func TestHex(t *testing.T) { // P4.3, P4.4
	var all []byte
	var whole strings.Builder
	for n := range 256 {
		one := []byte{byte(n)}
		if got := Hex(one); got != pair(n) {
			t.Errorf("Hex(%v): %q", one, got)
		}
		all = append(all, byte(n))
		whole.WriteString(pair(n))
		if got := Hex(all); got != whole.String() {
			t.Errorf("Hex(%v): %q", all, got)
		}
		if b, ok := Unhex(whole.String()); !ok || !bytes.Equal(b, all) {
			t.Errorf("Unhex(%q): %v, %v", whole.String(), b, ok)
		}
	}
	if got := Hex(nil); got != "" {
		t.Errorf("Hex(nil): %q", got)
	}
}

func TestUnhexOfTwoBytes(t *testing.T) { // P4.3, P4.4
	known := map[string]byte{}
	for n := range 256 {
		known[pair(n)] = byte(n)
	}
	for n := range 1 << 16 {
		s := string([]byte{byte(n >> 8), byte(n)})
		want, isString := known[s]
		b, ok := Unhex(s)
		if ok != isString || !ok && len(b) != 0 || ok && (len(b) != 1 || b[0] != want || Hex(b) != s) {
			t.Errorf("Unhex(%q): %v, %v", s, b, ok)
		}
	}
}

func TestUnhexOfWrongStrings(t *testing.T) { // P4.3
	for _, s := range []string{"0", "000", "00f", "0G", "G0", "FF", "fF", "00 ff", "00ff ", " 00ff", "0x00", "-0", "00fg", "00g0", "zz00ff", "0é", "é", "é0", "00é", "0é0", "\xff\xff", "00\xff0", "１", "0１", "İİ", "\U00010030", "00\n0"} {
		if b, ok := Unhex(s); ok || len(b) != 0 {
			t.Errorf("Unhex(%q): %v, %v", s, b, ok)
		}
	}
}

func TestUnhexOfNothing(t *testing.T) { // P4.3, P4.4
	if b, ok := Unhex(""); !ok || len(b) != 0 {
		t.Errorf("Unhex of nothing: %v, %v", b, ok)
	}
}

func TestMemory(t *testing.T) { // P4.3: arguments stay as they are, results are new
	b := []byte{1, 2, 0xfe, 0xff}
	if got := Hex(b[:2]); got != "0102" || !bytes.Equal(b, []byte{1, 2, 0xfe, 0xff}) {
		t.Errorf("Hex of a part: %q, and then %v", got, b)
	}
	one, _ := Unhex("0102")
	one[0] = 9
	if two, ok := Unhex("0102"); !ok || !bytes.Equal(two, []byte{1, 2}) {
		t.Errorf("Unhex again: %v, %v", two, ok)
	}
	words := Fields("a b")
	words[0] = "c"
	if again := Fields("a b"); !slices.Equal(again, []string{"a", "b"}) {
		t.Errorf("Fields again: %q", again)
	}
}

func TestFields(t *testing.T) { // P4.3
	for _, c := range []struct {
		s    string
		want []string
	}{
		{"", nil},
		{" ", []string{"", ""}},
		{"  ", []string{"", "", ""}},
		{"a", []string{"a"}},
		{"a b", []string{"a", "b"}},
		{"a  b", []string{"a", "", "b"}},
		{" a", []string{"", "a"}},
		{"a ", []string{"a", ""}},
		{" a b ", []string{"", "a", "b", ""}},
		{"a\tb\nc\vd\fe\rf\x00g", []string{"a\tb\nc\vd\fe\rf\x00g"}},
		{"a\u00a0b\u2003c\u3000d\u0120e", []string{"a\u00a0b\u2003c\u3000d\u0120e"}},
		{"\xff \xc3 \xa9", []string{"\xff", "\xc3", "\xa9"}},
		{"é ü", []string{"é", "ü"}},
	} {
		if got := Fields(c.s); !slices.Equal(got, c.want) {
			t.Errorf("Fields(%q): %q, want %q", c.s, got, c.want)
		}
	}
}

func TestFieldsJoined(t *testing.T) { // P4.3, P4.4
	random := rand.New(rand.NewPCG(4, 2))
	letters := []string{" ", " ", "a", "b", "\n", "\t", "\xff", "é", "\x00"}
	for range 5000 {
		var s strings.Builder
		for range random.IntN(12) {
			s.WriteString(letters[random.IntN(len(letters))])
		}
		got := Fields(s.String())
		if strings.Join(got, " ") != s.String() {
			t.Errorf("Fields(%q): %q", s.String(), got)
		}
		for _, piece := range got {
			if strings.Contains(piece, " ") {
				t.Errorf("Fields(%q): %q is not split", s.String(), piece)
			}
		}
	}
}

func TestExamples(t *testing.T) { // the chapter's
	if s := Dec(-5); s != "-5" {
		t.Error(s)
	}
	for _, s := range []string{"-0", "05", "9223372036854775808"} {
		if n, ok := Undec(s); ok || n != 0 {
			t.Error(s, n, ok)
		}
	}
	if s := DecWide(api.Wide{Hi: 1}); s != "18446744073709551616" {
		t.Error(s)
	}
	if s := Hex([]byte{0, 255}); s != "00ff" {
		t.Error(s)
	}
	for _, s := range []string{"0G", "0"} {
		if b, ok := Unhex(s); ok || len(b) != 0 {
			t.Error(s, b, ok)
		}
	}
	if l := Fields("a  b"); !slices.Equal(l, []string{"a", "", "b"}) {
		t.Error(l)
	}
}
