package addr

import (
	"bytes"
	"math/rand/v2"
	"net/netip"
	"slices"
	"strconv"
	"strings"
	"testing"

	"horologe/api"
)

// four returns an IPv4 address.
func four(a, b, c, d byte) api.Addr {
	return api.Addr{B: [16]byte{a, b, c, d}}
}

// six returns the IPv6 address of the groups.
func six(groups ...uint16) api.Addr {
	a := api.Addr{V6: true}
	for i, g := range groups {
		a.B[2*i], a.B[2*i+1] = byte(g>>8), byte(g)
	}
	return a
}

// known returns the address with the notation s by another parser; false if there is none.
func known(s string) (api.Addr, bool) {
	n, err := netip.ParseAddr(s)
	if err != nil || n.Zone() != "" || strings.Contains(s, "%") {
		return api.Addr{}, false
	}
	if n.Is4() {
		b := n.As4()
		return four(b[0], b[1], b[2], b[3]), true
	}
	return api.Addr{V6: true, B: n.As16()}, true
}

// shown returns the string of a valid address by another formatter.
func shown(a api.Addr) string {
	if !a.V6 {
		return netip.AddrFrom4([4]byte(a.B[:4])).String()
	}
	n := netip.AddrFrom16(a.B)
	if n.Is4In6() {
		hex := func(i int) string { return strconv.FormatUint(uint64(a.B[i])<<8|uint64(a.B[i+1]), 16) }
		return "::ffff:" + hex(12) + ":" + hex(14)
	}
	return n.String()
}

// addresses returns addresses with zeros in all places, and mixed ones; all are valid.
func addresses() []api.Addr {
	l := []api.Addr{{}, {V6: true}, four(255, 255, 255, 255), four(0, 0, 0, 1), four(1, 0, 0, 0), four(9, 10, 99, 100), four(199, 200, 249, 250)}
	random := rand.New(rand.NewPCG(5, 1))
	group := func() uint16 { return uint16(1 + random.IntN(65535)) }
	for zeros := range 256 {
		for _, most := range []bool{false, true} {
			g := make([]uint16, 8)
			for i := range g {
				if zeros>>i&1 == 0 {
					g[i] = group()
				}
				if zeros>>i&1 == 0 && most {
					g[i] = []uint16{1, 0x10, 0x100, 0x1000, 0xf, 0xff, 0xffff, 0xa0b0}[i]
				}
			}
			l = append(l, six(g...))
		}
	}
	for range 3000 {
		l = append(l, four(byte(random.Uint32()), byte(random.Uint32()), byte(random.Uint32()), byte(random.Uint32())))
		g := make([]uint16, 8)
		for i := range g {
			g[i] = uint16(random.Uint32()) >> random.IntN(17)
		}
		l = append(l, six(g...))
	}
	return append(l, six(0, 0, 0, 0, 0, 0xffff), six(0, 0, 0, 0, 0, 0xffff, 0x102, 0x304), six(0, 0, 0, 0, 0, 0, 0x102, 0x304))
}

// checkNotation holds Parse and Print against the other parser.
func checkNotation(t *testing.T, s string) {
	t.Helper()
	want, ok := known(s)
	got, err := Parse(s)
	if !ok && (err != api.ErrText || got != (api.Addr{})) {
		t.Errorf("Parse(%q): %v, %d; it is no notation", s, got, err)
	}
	if ok && (err != api.OK || got != want) {
		t.Errorf("Parse(%q): %v, %d, want %v", s, got, err, want)
	}
	if ok {
		again, err := Parse(printed(t, want))
		if err != api.OK || again != want {
			t.Errorf("%q: Parse of its string: %v, %d, want %v", s, again, err, want)
		}
	}
}

// printed returns the string of a valid address.
func printed(t *testing.T, a api.Addr) string {
	t.Helper()
	s, err := Print(a)
	if want := shown(a); err != api.OK || s != want {
		t.Errorf("Print(%v): %q, %d, want %q", a, s, err, want)
	}
	return s
}

func TestExamples(t *testing.T) { // P5.1, P5.2
	for s, want := range map[string]string{
		"2001:db8:0:0:1:0:0:1":    "2001:db8::1:0:0:1",
		"::ffff:1.2.3.4":          "::ffff:102:304",
		"2001:DB8::A":             "2001:db8::a",
		"1:0:3:4:5:6:7:8":         "1:0:3:4:5:6:7:8",
		"1::3:4:5:6:7:8":          "1:0:3:4:5:6:7:8",
		"::2:3:4:5:6:7:8":         "0:2:3:4:5:6:7:8",
		"1:2:3:4:5:6:7::":         "1:2:3:4:5:6:7:0",
		"1:2:3:4:5::1.2.3.4":      "1:2:3:4:5:0:102:304",
		"1:2:3:4:5:6:0.0.0.0":     "1:2:3:4:5:6::",
		"0001:0000::00fF":         "1::ff",
		"0:0:1:0:0:0:1:0":         "0:0:1::1:0",
		"0:0:0:1:0:0:0:1":         "::1:0:0:0:1",
		"0:0:1:1:0:0:0:0":         "0:0:1:1::",
		"0.0.0.0":                 "0.0.0.0",
		"255.255.255.255":         "255.255.255.255",
		"::255.255.255.255":       "::ffff:ffff",
		"ffff:ffff:ffff:ffff::":   "ffff:ffff:ffff:ffff::",
		"FFFF:ffff:FFFF:ffff::0f": "ffff:ffff:ffff:ffff::f",
	} {
		a, err := Parse(s)
		got, fault := Print(a)
		if err != api.OK || fault != api.OK || got != want {
			t.Errorf("Print(Parse(%q)): %q, %d, %d, want %q", s, got, err, fault, want)
		}
	}
	for _, s := range []string{"1.2.3", "1::2::3", "01.2.3.4", "1:2:3:4:5:6:7:8::"} {
		if a, err := Parse(s); err != api.ErrText || a != (api.Addr{}) {
			t.Errorf("Parse(%q): %v, %d", s, a, err)
		}
	}
	if s, err := Ends(api.Ends{Addr: six(0, 0, 0, 0, 0, 0, 0, 1), Port: 123}); s != "[::1]:123" || err != api.OK {
		t.Errorf("Ends of ::1, 123: %q, %d", s, err)
	}
}

func TestMay(t *testing.T) { // P5.1, P5.2
	for i := range 16 {
		a := api.Addr{}
		a.B[i] = 1
		if got := May(a); got != (i < 4) {
			t.Errorf("May(%v): %v", a, got)
		}
		s, err := Print(a)
		if want := i >= 4; (err == api.ErrArg) != want || (s == "") != want {
			t.Errorf("Print(%v): %q, %d", a, s, err)
		}
		s, err = Ends(api.Ends{Addr: a, Port: 7})
		if want := i >= 4; (err == api.ErrArg) != want || (s == "") != want {
			t.Errorf("Ends(%v): %q, %d", a, s, err)
		}
		a.V6 = true
		if !May(a) {
			t.Errorf("May(%v): false", a)
		}
	}
}

func TestAddresses(t *testing.T) { // P5.1, P5.3
	for _, a := range addresses() {
		s := printed(t, a)
		if !May(a) {
			t.Errorf("May(%v): false", a)
		}
		checkNotation(t, s)
		checkNotation(t, strings.ToUpper(s))
	}
}

func TestNotations(t *testing.T) { // P5.1, P5.3
	random := rand.New(rand.NewPCG(5, 2))
	for _, a := range addresses() {
		if !a.V6 {
			continue
		}
		// Groups with zeros that lead, a gap in any place and of any length, and an IPv4 notation at the end.
		g := make([]string, 8)
		for i := range g {
			h := strconv.FormatUint(uint64(a.B[2*i])<<8|uint64(a.B[2*i+1]), 16)
			g[i] = strings.Repeat("0", random.IntN(6-len(h))) + h
		}
		checkNotation(t, strings.Join(g, ":"))
		from := random.IntN(9)
		to := from + random.IntN(9-from)
		checkNotation(t, strings.Join(g[:from], ":")+"::"+strings.Join(g[to:], ":"))
		end := netip.AddrFrom4([4]byte(a.B[12:])).String()
		checkNotation(t, strings.Join(append(slices.Clone(g[:6]), end), ":"))
		from = min(from, 6)
		checkNotation(t, strings.Join(g[:from], ":")+"::"+end)
	}
}

func TestShortStrings(t *testing.T) { // P5.1
	// All strings of some pieces: a few make addresses, the others miss one by a little.
	pieces := []string{":", "::", ".", "0", "f", "1.2.3.4", "1:2:3:4:5", "12345", "G", ""}
	var extend func(s string, n int)
	extend = func(s string, n int) {
		checkNotation(t, s)
		for _, p := range pieces[:len(pieces)-1] {
			if n > 0 {
				extend(s+p, n-1)
			}
		}
	}
	extend("", 6)
}

func TestDamagedNotations(t *testing.T) { // P5.1
	whole := []string{
		"1.2.3.4", "255.255.255.255", "0.0.0.0", "10.0.0.255", "::", "::1", "1::", "1:2:3:4:5:6:7:8", "::ffff:1.2.3.4",
		"ffff:ffff:ffff:ffff:ffff:ffff:255.255.255.255", "1:2:3:4:5:6:7::", "::2:3:4:5:6:7:8", "1:2:3::4:5:6:7", "a:b::c:d:1.2.3.4", "2001:db8::1:0:0:1",
	}
	for _, s := range whole {
		checkNotation(t, s)
		for i := range len(s) + 1 {
			checkNotation(t, s[:i])
			checkNotation(t, s[i:])
			for c := range 256 {
				checkNotation(t, s[:i]+string([]byte{byte(c)})+s[i:])
				if i < len(s) {
					checkNotation(t, s[:i]+string([]byte{byte(c)})+s[i+1:])
				}
			}
			for _, p := range []string{"::", "00", "0000", "::0", "1.2.3.4", ":1.2.3.4", "256", ".256", "٣", "１", "Ａ", "%eth0", "/64"} {
				checkNotation(t, s[:i]+p+s[i:])
			}
			if i < len(s) {
				checkNotation(t, s[:i]+s[i+1:])
			}
		}
	}
	for _, s := range []string{strings.Repeat(":", 1000), strings.Repeat("0:", 1000) + "0", strings.Repeat("0.", 1000) + "0", "::" + strings.Repeat("0", 1000), "1.2.3." + strings.Repeat("0", 1000) + "4", "[::1]", "1.2.3.4:5", "1.2.3.18446744073709551620"} {
		checkNotation(t, s)
	}
	// No rune outside of ASCII is a digit, not even one that a change of case would make a letter.
	for r := rune(0); r <= 0x10ffff; r++ {
		if a, err := Parse("::" + string(r)); r > 127 && (err != api.ErrText || a != (api.Addr{})) {
			t.Errorf("Parse of :: and %U: %v, %d", r, a, err)
		}
	}
}

func TestLess(t *testing.T) { // P5.2
	// In order, among them IPv4 addresses that are not valid: they too sort by all their bytes.
	l := []api.Addr{
		{}, {B: [16]byte{15: 1}}, {B: [16]byte{4: 1}}, {B: [16]byte{4: 1, 15: 2}}, four(0, 0, 0, 1), four(0, 0, 1, 0), four(0, 0, 1, 255), four(0, 128, 0, 0), four(9, 255, 255, 255), four(10, 0, 0, 0), four(127, 0, 0, 1), four(128, 0, 0, 0), four(255, 255, 255, 255),
		{V6: true}, six(0, 0, 0, 0, 0, 0, 0, 1), six(0, 0, 0, 0, 0, 0, 0, 128), six(0, 0, 0, 0, 0, 0, 0, 0x8000), six(0, 0, 0, 0, 1), six(0x900), six(0x1000), six(0x7fff, 0xffff), six(0x8000), six(0xffff, 0, 0, 0, 0, 0, 0, 1),
	}
	for i, a := range l {
		for j, b := range l {
			if got := Less(a, b); got != (i < j) {
				t.Errorf("Less(%v, %v): %v", a, b, got)
			}
		}
	}
	mixed := addresses()
	for i, a := range mixed {
		b := mixed[(i*7+3)%len(mixed)]
		want := bytes.Compare(a.B[:], b.B[:]) < 0
		if a.V6 != b.V6 {
			want = !a.V6
		}
		if got := Less(a, b); got != want {
			t.Errorf("Less(%v, %v): %v", a, b, got)
		}
	}
}

func TestEnds(t *testing.T) { // P5.2
	ports := []uint16{0, 1, 9, 10, 123, 999, 1000, 9999, 10000, 32768, 65534, 65535}
	for i, a := range addresses() {
		e := api.Ends{Addr: a, Port: ports[i%len(ports)]}
		want := shown(a)
		if a.V6 {
			want = "[" + want + "]"
		}
		want += ":" + strconv.Itoa(int(e.Port))
		s, err := Ends(e)
		if s != want || err != api.OK {
			t.Errorf("Ends(%v): %q, %d, want %q", e, s, err, want)
		}
		again, err := ParseEnds(s)
		if again != e || err != api.OK {
			t.Errorf("ParseEnds(%q): %v, %d, want %v", s, again, err, e)
		}
	}
}

// checkEnds holds ParseEnds against Ends: what is accepted is the string of what is answered.
func checkEnds(t *testing.T, s string) {
	t.Helper()
	e, err := ParseEnds(s)
	if err == api.OK {
		if again, fault := Ends(e); again != s || fault != api.OK {
			t.Errorf("ParseEnds(%q): %v, whose string is %q, %d", s, e, again, fault)
		}
		return
	}
	if err != api.ErrText || e != (api.Ends{}) {
		t.Errorf("ParseEnds(%q): %v, %d", s, e, err)
	}
}

func TestDamagedEnds(t *testing.T) { // P5.2
	for _, s := range []string{
		"", ":", "::", "5", ":5", "[]:5", "[:5", "]:5", "x:5", "1.2.3.4", "1.2.3.4:", "1.2.3.4:05", "1.2.3.4:00", "1.2.3.4:65536", "1.2.3.4:65659", "1.2.3.4:-1", "1.2.3.4:+1", "1.2.3.4:0x1", "1.2.3.4: 5", "1.2.3.4 :5", "1.2.3.4:5 ", " 1.2.3.4:5", "01.2.3.4:5", "1.2.3.4::5", "1.2.3.4:5:5", "1.2.3:5",
		"[1.2.3.4]:5", "::1:5", "[::1]", "[::1]:", "[::1]5", "[::1:5", "::1]:5", "[[::1]]:5", "[::1]:05", "[::1]:65536", "[::1]:18446744073709551616", "[::1]:18446744073709551739", "[0::1]:7", "[::01]:7", "[::A]:7", "[::1.2.3.4]:7", "[0:0:0:0:0:0:0:1]:7", "[1::3:4:5:6:7:8]:9", "[1::2:0:0:0:0]:9", "[::1:0:0:1:0:0:0]:9", "[1::3:4:5:6:7:0]:9", "[::1]::5", "[::1] :5", "[ ::1]:5", "[::1%1]:5",
		"0.0.0.0", "0.0.0.0:", ":0", "0", "[]:0", "[0.0.0.0]:0", "0.0.0.0:65536", "0.0.0.0:x",
	} {
		if e, err := ParseEnds(s); err != api.ErrText || e != (api.Ends{}) {
			t.Errorf("ParseEnds(%q): %v, %d", s, e, err)
		}
	}
	for _, s := range []string{"1.2.3.4:123", "255.255.255.255:65535", "0.0.0.0:0", "[::]:0", "[::1]:123", "[1:2:3:4:5:6:7:8]:65535", "[a:0:0:b::c]:10"} {
		if _, err := ParseEnds(s); err != api.OK {
			t.Errorf("ParseEnds(%q): %d", s, err)
		}
		for i := range len(s) + 1 {
			checkEnds(t, s[:i])
			checkEnds(t, s[i:])
			for c := range 256 {
				checkEnds(t, s[:i]+string([]byte{byte(c)})+s[i:])
				if i < len(s) {
					checkEnds(t, s[:i]+string([]byte{byte(c)})+s[i+1:])
				}
			}
			for _, p := range []string{"[", "]", ":", "::", "]:", ":0", "00", "[::1]:5", "1.2.3.4:5"} {
				checkEnds(t, s[:i]+p+s[i:])
			}
		}
	}
}
