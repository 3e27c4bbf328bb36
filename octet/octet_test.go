package octet

import (
	"bytes"
	"math"
	"math/big"
	"math/rand/v2"
	"slices"
	"testing"
)

// ints are offsets and lengths around those of an integer and of a row of 20 bytes, and at the ends of their range.
func ints() []int {
	l := []int{math.MinInt, math.MinInt + 1, math.MinInt32, -1 << 16, -256, 255, 256, 1 << 16, math.MaxInt32, math.MaxInt - 20, math.MaxInt - 1, math.MaxInt}
	for n := -25; n <= 25; n++ {
		l = append(l, n)
	}
	return l
}

// random returns many bytes that are always the same for a seed.
func random(seed uint64, many int) []byte {
	r := rand.New(rand.NewPCG(7, seed))
	b := make([]byte, many)
	for i := range b {
		b[i] = byte(r.Uint32())
	}
	return b
}

// rows are rows of 0 to 20 bytes in both orders; behind each one's end, within its capacity, lie bytes that are not its own.
func rows() []Row {
	l := []Row{{}, {Little: true}}
	for many := range 21 {
		b := append(random(uint64(many), many), bytes.Repeat([]byte{0xa5}, 16)...)
		l = append(l, Row{B: b[:many]}, Row{B: b[:many], Little: true})
	}
	return append(l, Row{B: bytes.Repeat([]byte{0xff}, 20)}, Row{B: bytes.Repeat([]byte{0x80}, 20), Little: true})
}

// there tells whether many bytes at offset at exist, by exact arithmetic.
func there(r Row, at, many int) bool {
	end := new(big.Int).Add(big.NewInt(int64(at)), big.NewInt(int64(many)))
	return at >= 0 && many >= 0 && end.Cmp(big.NewInt(int64(len(r.B)))) <= 0
}

// value returns the integer that b is, by exact arithmetic.
func value(b []byte, little bool) uint64 {
	b = slices.Clone(b)
	if little {
		slices.Reverse(b)
	}
	return new(big.Int).SetBytes(b).Uint64()
}

func TestGet(t *testing.T) { // P7.1
	for _, r := range rows() {
		for _, at := range ints() {
			for _, many := range ints() {
				want, may := uint64(0), there(r, at, many) && many <= 8
				if may {
					want = value(r.B[at:at+many], r.Little)
				}
				if n, ok := r.Get(at, many); n != want || ok != may {
					t.Fatalf("Get(%d, %d) of %v: %x, %v", at, many, r, n, ok)
				}
			}
		}
	}
}

func TestGetOfEachWidth(t *testing.T) { // P7.1
	b := []byte{0x81, 2, 3, 4, 5, 6, 7, 8, 0x89}
	big := []uint64{0, 0x81, 0x8102, 0x810203, 0x81020304, 0x8102030405, 0x810203040506, 0x81020304050607, 0x8102030405060708}
	little := []uint64{0, 0x81, 0x0281, 0x030281, 0x04030281, 0x0504030281, 0x060504030281, 0x07060504030281, 0x0807060504030281}
	for many := range 9 {
		if n, ok := (Row{B: b}).Get(0, many); n != big[many] || !ok {
			t.Errorf("big-endian, %d bytes: %x, %v", many, n, ok)
		}
		if n, ok := (Row{B: b, Little: true}).Get(0, many); n != little[many] || !ok {
			t.Errorf("little-endian, %d bytes: %x, %v", many, n, ok)
		}
	}
	if n, ok := (Row{B: b}).Get(0, 9); n != 0 || ok {
		t.Errorf("an integer of 9 bytes: %x, %v", n, ok)
	}
}

func TestIntegersOfFixedWidth(t *testing.T) { // P7.1
	for _, r := range rows() {
		for _, at := range ints() {
			want := func(many int) uint64 {
				if !there(r, at, many) {
					return 0
				}
				return value(r.B[at:at+many], r.Little)
			}
			if n := r.U16(at); uint64(n) != want(2) {
				t.Errorf("U16(%d) of %v: %x", at, r, n)
			}
			if n := r.U32(at); uint64(n) != want(4) {
				t.Errorf("U32(%d) of %v: %x", at, r, n)
			}
			if n := r.U64(at); n != want(8) {
				t.Errorf("U64(%d) of %v: %x", at, r, n)
			}
		}
	}
}

func TestExamplesOfIntegers(t *testing.T) { // P7.1
	b := []byte{1, 2}
	if n := (Row{B: b}).U16(0); n != 258 {
		t.Errorf("big-endian: %d", n)
	}
	if n := (Row{B: b, Little: true}).U16(0); n != 513 {
		t.Errorf("little-endian: %d", n)
	}
}

func TestCut(t *testing.T) { // P7.1
	for _, r := range rows() {
		for _, at := range ints() {
			for _, many := range ints() {
				c, ok := r.Cut(at, many)
				if may := there(r, at, many); ok != may || !may && c != nil {
					t.Fatalf("Cut(%d, %d) of %v: %v, %v", at, many, r, c, ok)
				}
				if ok && (!bytes.Equal(c, r.B[at:at+many]) || cap(c) != many) {
					t.Fatalf("Cut(%d, %d) of %v: %v with room for %d", at, many, r, c, cap(c))
				}
				if many > 0 && ok && &c[0] != &r.B[at] {
					t.Fatalf("Cut(%d, %d) of %v copies", at, many, r)
				}
			}
		}
	}
}

func TestCutLeavesWhatFollows(t *testing.T) { // P7.1
	r := Row{B: []byte{1, 2, 3, 4}}
	c, _ := r.Cut(1, 2)
	_ = append(c, 9)
	if !bytes.Equal(r.B, []byte{1, 2, 3, 4}) {
		t.Errorf("an append reached %v", r.B)
	}
}

func TestPut(t *testing.T) { // P7.2
	for _, r := range rows() {
		whole := slices.Clone(r.B[:cap(r.B)])
		for _, n := range []uint64{0, 1, 0x80, 0xff, 0x8102030405060708, 0x0102030405060788, 1 << 63, math.MaxUint64} {
			for many := range 9 {
				got := r.Put(n, many)
				end := []byte{}
				for i := range many {
					end = append(end, byte(n>>(8*i)))
				}
				if !r.Little {
					slices.Reverse(end)
				}
				if want := slices.Concat(r.B, end); !bytes.Equal(got.B, want) || got.Little != r.Little {
					t.Fatalf("Put(%x, %d) to %v: %v", n, many, r, got)
				}
				if len(r.B) > 0 && &got.B[0] == &r.B[0] {
					t.Fatalf("Put(%x, %d) to %v is in the same memory", n, many, r)
				}
			}
		}
		if !bytes.Equal(whole, r.B[:cap(r.B)]) {
			t.Fatalf("the row is %v instead of %v", r.B[:cap(r.B)], whole)
		}
	}
}

func TestPutOfEachWidth(t *testing.T) { // P7.2
	big := []byte{0x81, 2, 3, 4, 5, 6, 7, 8}
	little := []byte{8, 7, 6, 5, 4, 3, 2, 0x81}
	for many := range 9 {
		if r := (Row{}).Put(0x8102030405060708, many); r.Little || !bytes.Equal(r.B, big[8-many:]) {
			t.Errorf("big-endian, %d bytes: %v", many, r)
		}
		if r := (Row{Little: true}).Put(0x8102030405060708, many); !r.Little || !bytes.Equal(r.B, little[:many]) {
			t.Errorf("little-endian, %d bytes: %v", many, r)
		}
	}
}

func TestPutTwiceToOneRow(t *testing.T) { // P7.2
	r := Row{Little: true}.Put(0x0201, 2)
	one, two := r.Put(3, 1), r.Put(4, 1)
	if !bytes.Equal(one.B, []byte{1, 2, 3}) || !bytes.Equal(two.B, []byte{1, 2, 4}) || !bytes.Equal(r.B, []byte{1, 2}) {
		t.Errorf("%v, %v, %v", one.B, two.B, r.B)
	}
}

func TestPutOfNoWidth(t *testing.T) { // P7.2
	for _, r := range rows() {
		for _, many := range ints() {
			if many >= 0 && many <= 8 {
				continue
			}
			got := r.Put(0x8102030405060708, many)
			if !bytes.Equal(got.B, r.B) || got.Little != r.Little || (got.B == nil) != (r.B == nil) {
				t.Fatalf("Put of %d bytes to %v: %v", many, r, got)
			}
			if len(r.B) > 0 && &got.B[0] != &r.B[0] {
				t.Fatalf("Put of %d bytes to %v is not the row itself", many, r)
			}
		}
	}
}

func TestPad(t *testing.T) { // P7.2
	for n, want := range map[int]int{0: 0, 1: 3, 2: 2, 3: 1, 4: 0, 5: 3, 8: 0, 65535: 1, -1: 0, -2: 0, -3: 0, -5: 0, math.MinInt: 0, math.MinInt + 1: 0, math.MaxInt: 1, math.MaxInt - 1: 2, math.MaxInt - 2: 3, math.MaxInt - 3: 0} {
		if got := Pad(n); got != want {
			t.Errorf("Pad(%d): %d", n, got)
		}
	}
	for n := range 1000 {
		if got := Pad(n); got < 0 || got > 3 || (n+got)%4 != 0 {
			t.Errorf("Pad(%d): %d", n, got)
		}
	}
}

// checksum computes the Internet checksum as the chapter words it, with what exceeds 16 bits added after each pair.
func checksum(b []byte) uint16 {
	total := uint32(0)
	for i := 0; i < len(b); i += 2 {
		pair := uint32(b[i]) * 256
		if i+1 < len(b) {
			pair += uint32(b[i+1])
		}
		total += pair
		total = total%65536 + total/65536
	}
	return uint16(65535 - total)
}

// texts are bytes of many lengths, even and odd: mixed ones, and such as exceed 16 bits at every pair or only at the end.
func texts() [][]byte {
	l := [][]byte{nil, {}}
	for many := range 70 {
		for _, b := range []byte{0, 1, 0x7f, 0x80, 0xff} {
			l = append(l, bytes.Repeat([]byte{b}, many))
		}
		l = append(l, random(uint64(many), many), random(uint64(many+100), many))
	}
	return append(l, random(1, 65535), random(2, 65536), bytes.Repeat([]byte{0xff}, 1<<20+1), []byte{0xff, 0xff, 0, 1}, []byte{0xff, 0xff, 0xff, 0xff, 0, 2})
}

func TestSum(t *testing.T) { // P7.3
	for _, b := range texts() {
		if got, want := Sum(b), checksum(b); got != want {
			t.Errorf("%d bytes that begin with %x: %x, want %x", len(b), b[:min(len(b), 16)], got, want)
		}
	}
}

func TestSumOfWrittenOut(t *testing.T) { // P7.3
	for want, parts := range map[uint16][][]byte{
		8717:   {{0, 1, 242, 3, 244, 245, 246, 247}},
		0xffff: {},
		0xfeff: {{1}},
		0xfefd: {{1, 2}},
		0:      {{0xff, 0xff}},
		0xfffe: {{0xff, 0xff, 0, 1}},
		0xfbfd: {{1}, {2}, {3}},
		0xfffa: {{0}, nil, {5}, {}},
		0x00ff: {{0xff}},
		0xff00: {{}, {0}, {}, {0xff}, {}},
	} {
		if got := Sum(parts...); got != want {
			t.Errorf("%v: %x, want %x", parts, got, want)
		}
	}
	if got := Sum(nil, []byte{}, nil); got != 0xffff {
		t.Errorf("parts without bytes: %x", got)
	}
}

func TestSumOfParts(t *testing.T) { // P7.3
	for _, b := range texts() {
		if len(b) > 100 {
			continue
		}
		want := checksum(b)
		for i := range len(b) + 1 {
			for j := i; j <= len(b); j++ {
				if got := Sum(b[:i], b[i:j], b[j:]); got != want {
					t.Fatalf("%x cut at %d and %d: %x, want %x", b, i, j, got, want)
				}
			}
		}
		if got := Sum(slices.Collect(slices.Chunk(b, 1))...); got != want {
			t.Errorf("%x byte by byte: %x, want %x", b, got, want)
		}
		if got := Sum(slices.Collect(slices.Chunk(b, 3))...); got != want {
			t.Errorf("%x in threes: %x, want %x", b, got, want)
		}
	}
}

func TestSumReadsAndWritesNothingElse(t *testing.T) { // P7.3
	b := append([]byte{1, 2, 3}, 0xa5, 0xa5, 0xa5)
	if got, want := Sum(b[:3:6], b[:1:6]), checksum([]byte{1, 2, 3, 1}); got != want {
		t.Errorf("%x, want %x", got, want)
	}
	if !bytes.Equal(b, []byte{1, 2, 3, 0xa5, 0xa5, 0xa5}) {
		t.Errorf("it wrote %v", b)
	}
}

func TestGetOfWhatWasPut(t *testing.T) { // P7.4
	numbers := []uint64{0, 1, 0x8102030405060708, math.MaxUint64}
	for bit := range 64 {
		numbers = append(numbers, 1<<bit, 1<<bit-1)
	}
	for _, r := range rows() {
		for _, n := range numbers {
			for many := range 9 {
				put := r.Put(n, many)
				lowest := n
				if many < 8 {
					lowest = n % (1 << (8 * many))
				}
				if got, ok := put.Get(len(r.B), many); got != lowest || !ok {
					t.Fatalf("Put(%x, %d) to %v, and Get: %x, %v", n, many, r, got, ok)
				}
				turned := slices.Clone(put.B)
				slices.Reverse(turned[len(r.B):])
				other := Row{B: put.B, Little: !r.Little}
				again := Row{B: turned, Little: r.Little}
				got, ok := other.Get(len(r.B), many)
				if want, _ := again.Get(len(r.B), many); got != want || !ok {
					t.Fatalf("Put(%x, %d) to %v, and Get in the other order: %x, %v, want %x", n, many, r, got, ok, want)
				}
			}
		}
	}
}

func TestSumWithItsChecksum(t *testing.T) { // P7.4
	for _, b := range texts() {
		if len(b)%2 != 0 {
			b = append(slices.Clone(b), 0)
		}
		r := Row{B: b}
		if got := Sum(r.Put(uint64(Sum(b)), 2).B); got != 0 {
			t.Errorf("%d bytes that begin with %x: %x", len(b), b[:min(len(b), 16)], got)
		}
	}
}
