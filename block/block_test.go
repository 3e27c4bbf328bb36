package block

import (
	"bytes"
	"encoding/binary"
	"errors"
	"math"
	"math/big"
	"math/rand/v2"
	"slices"
	"strconv"
	"testing"

	"horologe/api"
	"horologe/fault"
)

// orders are both byte orders: little-endian or not.
func orders() []bool { return []bool{false, true} }

// ordered is a byte order to read and to write in.
type ordered interface {
	binary.ByteOrder
	binary.AppendByteOrder
}

// order returns a byte order.
func order(little bool) ordered {
	if little {
		return binary.LittleEndian
	}
	return binary.BigEndian
}

// random returns many bytes that are always the same for a seed.
func random(seed uint64, many int) []byte {
	r := rand.New(rand.NewPCG(9, seed))
	b := make([]byte, many)
	for i := range b {
		b[i] = byte(r.Uint32())
	}
	return b
}

// framed returns a frame, field by field, whose two lengths may be any numbers.
func framed(little bool, kind, first uint32, body []byte, second uint32) []byte {
	o := order(little)
	b := o.AppendUint32(o.AppendUint32(nil, kind), first)
	return o.AppendUint32(append(b, body...), second)
}

// right returns the frame of a block.
func right(little bool, k Block) []byte {
	n := uint32(len(k.Body)) + 12
	return framed(little, k.Kind, n, k.Body, n)
}

// contents returns the body of a section header, field by field.
func contents(little bool, mark uint32, s Sec) []byte {
	o := order(little)
	b := o.AppendUint32(nil, mark)
	b = o.AppendUint16(o.AppendUint16(b, s.Major), s.Minor)
	return append(o.AppendUint64(b, uint64(s.Len)), s.Opts...)
}

// kinds are the kinds of blocks that have a name, numbers at the edges, and those whose bytes all differ.
func kinds() []uint32 {
	return []uint32{0, 1, 2, 3, 4, 5, 6, 10, 0x0a0d0d0a, 0x01020304, 0x80000000, math.MaxUint32}
}

// blocks are blocks of all these kinds, with bodies of several lengths.
func blocks() []Block {
	l := []Block{}
	for i, kind := range kinds() {
		l = append(l, Block{Kind: kind})
		for _, many := range []int{4, 8, 12, 16, 244, 256, 1024} {
			l = append(l, Block{Kind: kind, Body: random(uint64(i), many)})
		}
	}
	return l
}

// sections are contents of section headers: versions and lengths at the edges, and options of 0 to 9 and of more bytes.
func sections() []Sec {
	l := []Sec{}
	for _, n := range []int64{-1, 0, 1, 4, 0x0102030405060708, math.MaxInt64, math.MinInt64, -0x0102030405060708} {
		for _, minor := range []uint16{0, 1, 2, 0x0102, math.MaxUint16} {
			for many := range 10 {
				l = append(l, Sec{Major: 1, Minor: minor, Len: n, Opts: random(uint64(many), many)})
			}
			l = append(l, Sec{Major: 1, Minor: minor, Len: n}, Sec{Major: 1, Minor: minor, Len: n, Opts: random(3, 1001)})
		}
	}
	return l
}

// same tells whether two blocks are the same.
func same(k, l Block) bool { return k.Kind == l.Kind && bytes.Equal(k.Body, l.Body) }

// sameSec tells whether two contents of section headers are the same.
func sameSec(s, t Sec) bool {
	return s.Major == t.Major && s.Minor == t.Minor && s.Len == t.Len && bytes.Equal(s.Opts, t.Opts)
}

// size returns what P9.1 says that Size returns, by exact arithmetic.
func size(b []byte, little bool, most int) (int, api.Errno) {
	if len(b) < 8 {
		return 0, api.ErrShort
	}
	l := slices.Clone(b[4:8])
	if little {
		slices.Reverse(l)
	}
	n := new(big.Int).SetBytes(l)
	if n.Cmp(big.NewInt(12)) < 0 || n.Bit(0) != 0 || n.Bit(1) != 0 {
		return 0, api.ErrBlock
	}
	if n.Cmp(big.NewInt(int64(most))) > 0 {
		return 0, api.ErrSnap
	}
	return int(n.Int64()), api.OK
}

// opened returns what P9.2 says that Open returns: a block and its frame's length, or an error's kind and its offset.
func opened(b []byte, little bool, most int, off int64) (k Block, n int, e api.Errno, at int64) {
	end := off + int64(len(b))
	if off < 0 || off > 1<<62 {
		return Block{}, 0, api.ErrArg, 0
	}
	n, e = size(b, little, most)
	if e == api.ErrShort {
		return Block{}, 0, e, end
	}
	if e != api.OK {
		return Block{}, 0, e, off + 4
	}
	if len(b) < n {
		return Block{}, 0, api.ErrShort, end
	}
	o := order(little)
	if o.Uint32(b[n-4:n]) != uint32(n) {
		return Block{}, 0, api.ErrBlock, off + int64(n) - 4
	}
	return Block{Kind: o.Uint32(b[:4]), Body: b[8 : n-4]}, n, api.OK, 0
}

// line returns the line of Open's error.
func line(e api.Errno, at int64) string {
	return "block: kind " + strconv.Itoa(int(e)) + " at " + strconv.FormatInt(at, 10)
}

// checkError holds Open's answer against that it is only this error.
func checkError(t *testing.T, b []byte, little bool, most int, off int64, e api.Errno, at int64) {
	t.Helper()
	k, n, err := Open(b, little, most, off)
	if got, ok := fault.Line(err); got != line(e, at) || !ok {
		t.Fatalf("%x, %v, %d, %d: %v, want %v", b, little, most, off, err, line(e, at))
	}
	if k.Kind != 0 || len(k.Body) != 0 || n != 0 {
		t.Fatalf("%x, %v, %d, %d: %v, %d beside %v", b, little, most, off, k, n, err)
	}
}

// checkOpen holds Open's answer against what P9.2 says.
func checkOpen(t *testing.T, b []byte, little bool, most int, off int64) {
	t.Helper()
	want, length, e, at := opened(b, little, most, off)
	if e != api.OK {
		checkError(t, b, little, most, off, e, at)
		return
	}
	if k, n, err := Open(b, little, most, off); !same(k, want) || n != length || err != nil {
		t.Fatalf("%x, %v, %d, %d: %v, %d, %v", b, little, most, off, k, n, err)
	}
}

func TestConstants(t *testing.T) { // P9.1, P9.4
	if Section != 0x0a0d0d0a || Face != 1 || Old != 2 || Simple != 3 || Enhanced != 6 || Order != 0x1a2b3c4d || Least != 12 {
		t.Error(Section, Face, Old, Simple, Enhanced, Order, Least)
	}
}

func TestSize(t *testing.T) { // P9.1
	lengths := []uint32{0, 1, 4, 8, 11, 12, 13, 14, 15, 16, 17, 20, 60, 64, 65, 66, 68, 255, 256, 260, 1 << 16, 1<<20 - 4, 1 << 20, 1<<20 + 4, 0x01020304, 0x04030200, 0x7ffffffc, 0x7fffffff, 0x80000000, 0x80000004, 0xfffffffc, 0xfffffffd, math.MaxUint32}
	mosts := []int{math.MinInt, math.MinInt32, -1, 0, 1, 11, 12, 13, 15, 16, 63, 64, 256, 1 << 20, math.MaxInt32, 1 << 31, math.MaxUint32 - 4, math.MaxUint32 - 3, math.MaxUint32, math.MaxUint32 + 1, math.MaxInt}
	for _, little := range orders() {
		for _, length := range lengths {
			for _, rest := range [][]byte{nil, {0}, random(1, 4), random(2, 100)} {
				// What follows the first eight bytes doesn't count, and neither does the kind.
				b := framed(little, 0x05060708, length, rest, 0)[:8+len(rest)]
				for _, most := range mosts {
					want, sort := size(b, little, most)
					if n, e := Size(b, little, most); n != want || e != sort {
						t.Fatalf("%x, %v, %d: %d, %v, want %d, %v", b, little, most, n, e, want, sort)
					}
				}
			}
		}
	}
}

func TestSizeOfEachLength(t *testing.T) { // P9.1
	for _, little := range orders() {
		for length := range uint32(300) {
			want, sort := int(length), api.OK
			if length < 12 || length%4 != 0 {
				want, sort = 0, api.ErrBlock
			}
			b := framed(little, 6, length, nil, length)
			for _, most := range []int{int(length), int(length) + 1, 1 << 20} {
				if n, e := Size(b, little, most); n != want || e != sort {
					t.Fatalf("%x, %v, %d: %d, %v", b, little, most, n, e)
				}
			}
			if sort == api.OK {
				sort = api.ErrSnap
			}
			for _, most := range []int{int(length) - 1, 0, -1} { // a length that may not be comes before one that is too great
				if n, e := Size(b, little, most); n != 0 || e != sort {
					t.Fatalf("%x, %v, %d: %d, %v", b, little, most, n, e)
				}
			}
		}
	}
}

func TestSizeOfTooFewBytes(t *testing.T) { // P9.1
	for _, little := range orders() {
		for _, most := range []int{math.MinInt, -1, 0, 12, 64, math.MaxInt} {
			if n, e := Size(nil, little, most); n != 0 || e != api.ErrShort {
				t.Errorf("no bytes: %d, %v", n, e)
			}
			for _, length := range []uint32{0, 11, 12, 16, math.MaxUint32} {
				b := framed(little, 6, length, nil, length)
				for n := range 8 {
					// The bytes that are missing lie behind the slice's end, where they are not to be read.
					if n, e := Size(b[:n], little, most); n != 0 || e != api.ErrShort {
						t.Errorf("%x: %d, %v", b[:n], n, e)
					}
				}
			}
		}
	}
}

func TestExamplesOfSize(t *testing.T) { // P9.1
	b := []byte{6, 0, 0, 0, 0x10, 0, 0, 0}
	if n, e := Size(b, true, 64); n != 16 || e != api.OK {
		t.Errorf("at most 64: %d, %v", n, e)
	}
	if n, e := Size(b, true, 15); n != 0 || e != api.ErrSnap {
		t.Errorf("at most 15: %d, %v", n, e)
	}
}

func TestOpen(t *testing.T) { // P9.2
	for _, little := range orders() {
		for _, k := range blocks() {
			b := right(little, k)
			for _, rest := range [][]byte{nil, {0}, {0, 0, 0, 12}, b, random(5, 99)} {
				for _, most := range []int{len(b), len(b) + 1, 1 << 20, math.MaxInt} {
					for _, off := range []int64{0, 1, 100, 1 << 32, 1<<62 - 1, 1 << 62} {
						got, n, err := Open(slices.Concat(b, rest), little, most, off)
						if !same(got, k) || n != len(b) || err != nil {
							t.Fatalf("%x and %x, %d, %d: %v, %d, %v", b, rest, most, off, got, n, err)
						}
					}
				}
			}
		}
	}
}

func TestOpenOfWrittenOut(t *testing.T) { // P9.2
	for _, c := range []struct {
		s      string
		little bool
		want   Block
		length int
	}{
		{"\x00\x00\x00\x01\x00\x00\x00\x10\x01\x02\x03\x04\x00\x00\x00\x10", false, Block{Kind: 1, Body: []byte{1, 2, 3, 4}}, 16},
		{"\x01\x00\x00\x00\x10\x00\x00\x00\x01\x02\x03\x04\x10\x00\x00\x00\xff", true, Block{Kind: 1, Body: []byte{1, 2, 3, 4}}, 16},
		{"\x01\x02\x03\x04\x00\x00\x00\x0c\x00\x00\x00\x0c", false, Block{Kind: 0x01020304}, 12},
		{"\x01\x02\x03\x04\x0c\x00\x00\x00\x0c\x00\x00\x00", true, Block{Kind: 0x04030201}, 12},
	} {
		if k, n, err := Open([]byte(c.s), c.little, 16, 5); !same(k, c.want) || n != c.length || err != nil {
			t.Errorf("%x: %v, %d, %v", c.s, k, n, err)
		}
	}
}

func TestOpenOfWrongOffset(t *testing.T) { // P9.2
	for _, little := range orders() {
		whole := right(little, Block{Kind: 6, Body: random(1, 20)})
		bad := framed(little, 6, 13, nil, 12)
		for _, off := range []int64{-1, -100, math.MinInt32, math.MinInt64, math.MinInt64 + 1, 1<<62 + 1, 1<<62 + 1<<32, math.MaxInt64 - 1, math.MaxInt64} {
			for _, b := range [][]byte{nil, whole, whole[:7], whole[:31], bad} { // it comes before all other errors
				for _, most := range []int{-1, 16, 64} {
					checkError(t, b, little, most, off, api.ErrArg, 0)
				}
			}
		}
		for _, off := range []int64{0, 1 << 62} {
			checkError(t, whole[:7], little, 64, off, api.ErrShort, off+7)
			checkError(t, whole[:31], little, 64, off, api.ErrShort, off+31)
			checkError(t, bad, little, 64, off, api.ErrBlock, off+4)
		}
	}
}

func TestOpenOfTooFewBytes(t *testing.T) { // P9.2
	for _, little := range orders() {
		checkError(t, nil, little, 64, 0, api.ErrShort, 0)
		for _, many := range []int{0, 4, 20, 244} {
			b := right(little, Block{Kind: 6, Body: random(1, many)})
			for n := range b {
				for _, off := range []int64{0, 1, 28, 1 << 40, 1 << 62} {
					// The bytes that are missing lie behind the slice's end, where they are not to be read.
					checkError(t, b[:n], little, 256, off, api.ErrShort, off+int64(n))
				}
			}
		}
		far := framed(little, 6, 0xfffffffc, random(1, 20), 0xfffffffc)
		checkError(t, far, little, math.MaxInt, 9, api.ErrShort, 9+32)
	}
}

func TestOpenOfWrongLength(t *testing.T) { // P9.2
	for _, little := range orders() {
		for _, length := range []uint32{0, 1, 4, 8, 11, 13, 14, 15, 17, 30, 33, 0x7fffffff, math.MaxUint32} {
			b := framed(little, 6, length, random(1, 20), 32) // a length that may not be comes before missing bytes, and before the second length
			for _, off := range []int64{0, 100, 1 << 62} {
				checkError(t, b, little, 64, off, api.ErrBlock, off+4)
				checkError(t, b[:8], little, -1, off, api.ErrBlock, off+4)
			}
		}
		for _, second := range []uint32{16, 15, 0} { // a length that is too great comes before missing bytes, and before the second length
			b := framed(little, 6, 16, random(1, 4), second)
			for _, most := range []int{15, 12, 0, -1, math.MinInt} {
				checkError(t, b, little, most, 100, api.ErrSnap, 104)
				checkError(t, b[:8], little, most, 100, api.ErrSnap, 104)
			}
		}
		checkError(t, framed(little, 6, math.MaxUint32-3, nil, 0), little, 1<<20, 7, api.ErrSnap, 11)
	}
}

func TestOpenOfOtherSecondLength(t *testing.T) { // P9.2
	for _, little := range orders() {
		for _, many := range []int{0, 4, 20, 256} {
			b := right(little, Block{Kind: 6, Body: random(1, many)})
			for bit := range 32 {
				bad := slices.Clone(b)
				bad[len(b)-4+bit/8] ^= 1 << (bit % 8)
				for _, rest := range [][]byte{nil, random(1, 3), b} {
					for _, off := range []int64{0, 100, 1 << 62} {
						checkError(t, slices.Concat(bad, rest), little, 512, off, api.ErrBlock, off+int64(len(b))-4)
					}
				}
			}
		}
		// A length in the other byte order is another one, and one that lies before the frame's end doesn't count.
		checkError(t, framed(little, 6, 16, make([]byte, 4), 16<<24), little, 64, 0, api.ErrBlock, 12)
		checkError(t, framed(little, 6, 16, order(little).AppendUint32(nil, 16), 20), little, 64, 0, api.ErrBlock, 12)
	}
}

func TestOpenOfOtherOrder(t *testing.T) { // P9.2
	for _, little := range orders() {
		checkError(t, right(!little, Block{Kind: 6}), little, 1<<20, 3, api.ErrSnap, 7)
		checkError(t, right(!little, Block{Kind: 6}), little, math.MaxInt, 3, api.ErrShort, 15)
	}
}

func TestOpenOfAnyBytes(t *testing.T) { // P9.2
	r := rand.New(rand.NewPCG(9, 1000))
	for range 200000 {
		little := r.IntN(2) == 0
		b := right(little, Block{Kind: r.Uint32(), Body: make([]byte, 4*r.IntN(6))})
		for range r.IntN(3) {
			b[r.IntN(len(b))] = byte(r.UintN(40))
		}
		b = append(b, make([]byte, r.IntN(5))...)
		checkOpen(t, b[:len(b)-r.IntN(8)*r.IntN(2)], little, r.IntN(50), r.Int64N(1<<21)-r.Int64N(2)<<20)
	}
	for i := range 20000 {
		checkOpen(t, random(uint64(i), i%40), i%2 == 0, math.MaxInt, int64(i))
	}
}

func TestErrorsOfOpen(t *testing.T) { // P9.2
	b := right(true, Block{Kind: 6, Body: make([]byte, 4)})
	_, _, err := Open(b[:10], true, 64, 100)
	if kind, ok := fault.Kind(err); kind != api.ErrShort || !ok {
		t.Errorf("kind %v, %v", kind, ok)
	}
	if off, ok := fault.Off(err); off != 110 || !ok {
		t.Errorf("offset %d, %v", off, ok)
	}
	if notes := fault.Notes(err); !slices.Equal(notes, []string{"block"}) {
		t.Errorf("notes %v", notes)
	}
	if !errors.Is(err, fault.Sort(api.ErrShort)) || errors.Is(err, fault.Sort(api.ErrBlock)) {
		t.Errorf("no sort of ErrShort alone: %v", err)
	}
}

func TestBytes(t *testing.T) { // P9.3
	for _, little := range orders() {
		for _, k := range blocks() {
			if b, e := k.Bytes(little); !bytes.Equal(b, right(little, k)) || e != api.OK {
				t.Errorf("%v: %x, %v", k, b, e)
			}
		}
	}
}

func TestBytesOfWrittenOut(t *testing.T) { // P9.3
	for _, c := range []struct {
		k      Block
		little bool
		want   string
	}{
		{Block{Kind: 1, Body: []byte{1, 2, 3, 4}}, false, "\x00\x00\x00\x01\x00\x00\x00\x10\x01\x02\x03\x04\x00\x00\x00\x10"},
		{Block{Kind: 1, Body: []byte{1, 2, 3, 4}}, true, "\x01\x00\x00\x00\x10\x00\x00\x00\x01\x02\x03\x04\x10\x00\x00\x00"},
		{Block{Kind: 0x01020304}, false, "\x01\x02\x03\x04\x00\x00\x00\x0c\x00\x00\x00\x0c"},
		{Block{Kind: 0x01020304}, true, "\x04\x03\x02\x01\x0c\x00\x00\x00\x0c\x00\x00\x00"},
		{Block{}, false, "\x00\x00\x00\x00\x00\x00\x00\x0c\x00\x00\x00\x0c"},
	} {
		if b, e := c.k.Bytes(c.little); string(b) != c.want || e != api.OK {
			t.Errorf("%v: %x, %v", c.k, b, e)
		}
	}
}

func TestBytesOfEachLength(t *testing.T) { // P9.3
	for _, little := range orders() {
		for many := range 300 {
			k := Block{Kind: 6, Body: random(1, many)}
			want, sort := right(little, k), api.OK
			if many%4 != 0 {
				want, sort = nil, api.ErrArg
			}
			if b, e := k.Bytes(little); !bytes.Equal(b, want) || e != sort {
				t.Errorf("%d bytes: %x, %v", many, b, e)
			}
		}
	}
}

func TestBytesOfLongBody(t *testing.T) { // P9.3
	for _, little := range orders() {
		for _, c := range []struct {
			many int
			e    api.Errno
		}{
			{1<<20 - 4, api.OK}, {1<<20 - 3, api.ErrArg}, {1<<20 - 1, api.ErrArg}, {1 << 20, api.OK},
			{1<<20 + 1, api.ErrLong}, {1<<20 + 2, api.ErrLong}, {1<<20 + 3, api.ErrLong}, {1<<20 + 4, api.ErrLong}, {1 << 21, api.ErrLong},
		} {
			k := Block{Kind: 6, Body: random(2, c.many)}
			want := []byte(nil)
			if c.e == api.OK {
				want = right(little, k)
			}
			if b, e := k.Bytes(little); !bytes.Equal(b, want) || e != c.e {
				t.Errorf("%d bytes: %d bytes, %v, want %v", c.many, len(b), e, c.e)
			}
		}
	}
}

func TestTurn(t *testing.T) { // P9.4
	for _, little := range orders() {
		for _, length := range []uint32{0, 1, 11, 12, 27, 28, math.MaxUint32} { // it counts that the length is there, not what it is
			b := framed(little, 0x0a0d0d0a, length, nil, 0x1a2b3c4d)
			for _, rest := range [][]byte{nil, {0}, order(!little).AppendUint32(nil, 0x1a2b3c4d), random(1, 50)} {
				if got, e := Turn(slices.Concat(b, rest)); got != little || e != api.OK {
					t.Errorf("%x and %x: %v, %v", b, rest, got, e)
				}
			}
		}
	}
}

func TestTurnOfWrittenOut(t *testing.T) { // P9.4
	for _, c := range []struct {
		s      string
		little bool
		e      api.Errno
	}{
		{"\x0a\x0d\x0d\x0a\x00\x00\x00\x1c\x1a\x2b\x3c\x4d", false, api.OK},
		{"\x0a\x0d\x0d\x0a\x1c\x00\x00\x00\x4d\x3c\x2b\x1a", true, api.OK},
		{"\x0a\x0d", false, api.ErrShort},
		{"\x0a\x0e", false, api.ErrMagic},
		{"\x0d\x0a", false, api.ErrMagic},
		{"\x0a\x0d\x0d\x0a\x1c\x00\x00\x00\x4d\x3c\x2b", false, api.ErrShort},
		{"\x0a\x0d\x0d\x0a\x1c\x00\x00\x00\x2b\x1a\x4d\x3c", false, api.ErrMagic},
		{"\x0a\x0d\x0d\x0a\x1c\x00\x00\x00\x3c\x4d\x1a\x2b", false, api.ErrMagic},
		{"\x0a\x0d\x0d\x0a\x1a\x2b\x3c\x4d\x00\x00\x00\x00", false, api.ErrMagic},
		{"\x0a\x0d\x0d\x0a\x1a\x2b\x3c\x4d", false, api.ErrShort},
		{"", false, api.ErrShort},
	} {
		if little, e := Turn([]byte(c.s)); little != c.little || e != c.e {
			t.Errorf("%x: %v, %v, want %v, %v", c.s, little, e, c.little, c.e)
		}
	}
	if little, e := Turn(nil); little || e != api.ErrShort {
		t.Errorf("no bytes: %v, %v", little, e)
	}
}

func TestTurnOfTooFewBytes(t *testing.T) { // P9.4
	for _, little := range orders() {
		for _, mark := range []uint32{0x1a2b3c4d, 0, math.MaxUint32} { // missing bytes come before a mark that is none
			b := framed(little, 0x0a0d0d0a, 28, nil, mark)
			for n := range 12 {
				// The bytes that are missing lie behind the slice's end, where they are not to be read.
				if got, e := Turn(b[:n]); got || e != api.ErrShort {
					t.Errorf("%x: %v, %v", b[:n], got, e)
				}
			}
		}
	}
}

func TestTurnOfOtherKind(t *testing.T) { // P9.4
	for _, little := range orders() {
		for _, mark := range []uint32{0x1a2b3c4d, 0} {
			for bit := range 32 {
				b := framed(little, 0x0a0d0d0a^1<<bit, 28, nil, mark)
				for n := range 13 {
					want := api.ErrMagic // it comes before missing bytes
					if n < 4 && bytes.HasPrefix([]byte("\n\r\r\n"), b[:n]) {
						want = api.ErrShort
					}
					if got, e := Turn(b[:n]); got || e != want {
						t.Fatalf("%x: %v, %v, want %v", b[:n], got, e, want)
					}
				}
			}
		}
	}
}

func TestTurnOfEachFirstBytes(t *testing.T) { // P9.4
	for i := range 1 << 16 {
		for _, b := range [][]byte{{byte(i >> 8), byte(i)}, {byte(i >> 8)}, {10, 13, byte(i >> 8), byte(i)}} {
			want := api.ErrMagic
			if bytes.HasPrefix([]byte("\n\r\r\n"), b) {
				want = api.ErrShort
			}
			if little, e := Turn(b); little || e != want {
				t.Fatalf("%x: %v, %v, want %v", b, little, e, want)
			}
		}
	}
}

func TestTurnOfOtherMark(t *testing.T) { // P9.4
	for _, little := range orders() {
		for bit := range 32 {
			b := framed(little, 0x0a0d0d0a, 28, nil, 0x1a2b3c4d^1<<bit)
			for _, rest := range [][]byte{nil, order(little).AppendUint32(nil, 0x1a2b3c4d)} {
				if got, e := Turn(slices.Concat(b, rest)); got || e != api.ErrMagic {
					t.Errorf("%x and %x: %v, %v", b, rest, got, e)
				}
			}
		}
	}
}

func TestSec(t *testing.T) { // P9.4
	for _, little := range orders() {
		for _, s := range sections() {
			k := Block{Kind: 0x0a0d0d0a, Body: contents(little, 0x1a2b3c4d, s)}
			if got, e := k.Sec(little); !sameSec(got, s) || e != api.OK {
				t.Fatalf("%x: %v, %v, want %v", k.Body, got, e, s)
			}
		}
	}
}

func TestSecOfWrittenOut(t *testing.T) { // P9.4
	want := Sec{Major: 1, Minor: 0x0203, Len: -0x0506070809101112, Opts: []byte{1, 2, 3, 4}}
	for little, body := range map[bool]string{
		false: "\x1a\x2b\x3c\x4d\x00\x01\x02\x03\xfa\xf9\xf8\xf7\xf6\xef\xee\xee\x01\x02\x03\x04",
		true:  "\x4d\x3c\x2b\x1a\x01\x00\x03\x02\xee\xee\xef\xf6\xf7\xf8\xf9\xfa\x01\x02\x03\x04",
	} {
		k := Block{Kind: 0x0a0d0d0a, Body: []byte(body)}
		if got, e := k.Sec(little); !sameSec(got, want) || e != api.OK {
			t.Errorf("%x: %v, %v", body, got, e)
		}
		if got := want.Block(little); !same(got, k) {
			t.Errorf("%v: %v", want, got)
		}
	}
}

// checkNoSec holds Sec's answer against that it is only this error.
func checkNoSec(t *testing.T, k Block, little bool, want api.Errno) {
	t.Helper()
	if s, e := k.Sec(little); !sameSec(s, Sec{}) || e != want {
		t.Fatalf("%x, %x, %v: %v, %v, want %v", k.Kind, k.Body, little, s, e, want)
	}
}

func TestSecOfOtherKind(t *testing.T) { // P9.4
	for _, little := range orders() {
		whole := contents(little, 0x1a2b3c4d, Sec{Major: 1, Len: -1, Opts: random(1, 4)})
		wrong := contents(little, 0x1a2b3c4e, Sec{Major: 2})
		for _, kind := range append(kinds(), 0x0a0d0a0d, 0x0d0a0a0d) {
			if kind == 0x0a0d0d0a {
				continue
			}
			for _, body := range [][]byte{nil, whole[:15], whole, wrong} { // it comes before all other errors
				checkNoSec(t, Block{Kind: kind, Body: body}, little, api.ErrArg)
			}
		}
		for bit := range 32 {
			checkNoSec(t, Block{Kind: 0x0a0d0d0a ^ 1<<bit, Body: whole}, little, api.ErrArg)
		}
	}
}

func TestSecOfTooFewBytes(t *testing.T) { // P9.4
	for _, little := range orders() {
		checkNoSec(t, Block{Kind: 0x0a0d0d0a}, little, api.ErrBlock)
		for _, mark := range []uint32{0x1a2b3c4d, 0} {
			for _, major := range []uint16{1, 2} { // missing bytes come before a mark and a version that may not be
				body := contents(little, mark, Sec{Major: major, Minor: 2, Len: -1})
				for n := range 16 {
					checkNoSec(t, Block{Kind: 0x0a0d0d0a, Body: body[:n]}, little, api.ErrBlock)
				}
			}
		}
	}
}

func TestSecOfOtherMark(t *testing.T) { // P9.4
	for _, little := range orders() {
		for _, major := range []uint16{0, 1, 2} { // a mark that is none comes before a version that may not be
			s := Sec{Major: major, Minor: 2, Len: -1, Opts: random(1, 8)}
			for bit := range 32 {
				checkNoSec(t, Block{Kind: 0x0a0d0d0a, Body: contents(little, 0x1a2b3c4d^1<<bit, s)}, little, api.ErrMagic)
			}
			for _, mark := range []uint32{0, 0x4d3c2b1a, 0x2b1a4d3c, math.MaxUint32} {
				checkNoSec(t, Block{Kind: 0x0a0d0d0a, Body: contents(little, mark, s)}, little, api.ErrMagic)
			}
			checkNoSec(t, Block{Kind: 0x0a0d0d0a, Body: contents(!little, 0x1a2b3c4d, s)}, little, api.ErrMagic)
		}
	}
}

func TestSecOfOtherVersion(t *testing.T) { // P9.4
	for _, little := range orders() {
		for major := range 1 << 16 {
			if major != 1 {
				s := Sec{Major: uint16(major), Minor: 1, Len: 1, Opts: []byte{1}}
				checkNoSec(t, Block{Kind: 0x0a0d0d0a, Body: contents(little, 0x1a2b3c4d, s)}, little, api.ErrOther)
			}
		}
	}
}

func TestBlock(t *testing.T) { // P9.4
	for _, little := range orders() {
		for _, s := range sections() {
			for _, major := range []uint16{0, 1, 2, 0x0100, 0x0102, math.MaxUint16} { // whatever the contents are
				s.Major = major
				padded := s
				for padded.Opts = slices.Clone(s.Opts); len(padded.Opts)%4 != 0; {
					padded.Opts = append(padded.Opts, 0)
				}
				want := Block{Kind: 0x0a0d0d0a, Body: contents(little, 0x1a2b3c4d, padded)}
				if k := s.Block(little); !same(k, want) {
					t.Fatalf("%v: %v, want %v", s, k, want)
				}
			}
		}
	}
}

func TestBlockOfLongOptions(t *testing.T) { // P9.4
	s := Sec{Major: 1, Opts: random(1, 1<<20+1)}
	k := s.Block(true)
	if k.Kind != 0x0a0d0d0a || len(k.Body) != 16+1<<20+4 || !bytes.Equal(k.Body[16:], append(random(1, 1<<20+1), 0, 0, 0)) {
		t.Errorf("kind %x, %d bytes", k.Kind, len(k.Body))
	}
	if b, e := k.Bytes(true); len(b) != 0 || e != api.ErrLong {
		t.Errorf("%d bytes, %v", len(b), e)
	}
}

func TestOpenOfBytes(t *testing.T) { // P9.5
	for _, little := range orders() {
		for _, k := range append(blocks(), Block{Kind: 6, Body: random(1, 1<<20)}) {
			b, e := k.Bytes(little)
			if e != api.OK {
				t.Fatalf("%v: %v", k, e)
			}
			if n, e := Size(b, little, len(b)); n != len(k.Body)+12 || e != api.OK {
				t.Fatalf("%v: %d, %v", k, n, e)
			}
			for _, rest := range [][]byte{nil, {0}, b, random(4, 7)} {
				got, n, err := Open(slices.Concat(b, rest), little, len(b), 24)
				if !same(got, k) || n != len(b) || err != nil {
					t.Fatalf("%v and %x: %v, %d, %v", k, rest, got, n, err)
				}
			}
		}
	}
}

func TestOpenOfCutBytes(t *testing.T) { // P9.5
	for _, little := range orders() {
		for _, k := range blocks() {
			b, e := k.Bytes(little)
			if e != api.OK {
				t.Fatalf("%v: %v", k, e)
			}
			for n := range b {
				checkError(t, b[:n], little, len(b), 1000, api.ErrShort, 1000+int64(n))
			}
		}
	}
}

func TestSectionsComeBack(t *testing.T) { // P9.5
	for _, little := range orders() {
		for _, s := range sections() {
			k := s.Block(little)
			b, e := k.Bytes(little)
			if e != api.OK {
				t.Fatalf("%v: %v", s, e)
			}
			if turn, e := Turn(b); turn != little || e != api.OK {
				t.Fatalf("%v: %v, %v", s, turn, e)
			}
			opened, n, err := Open(b, little, len(b), 0)
			if !same(opened, k) || n != len(b) || err != nil {
				t.Fatalf("%v: %v, %d, %v", s, opened, n, err)
			}
			got, e := opened.Sec(little)
			want := append(slices.Clone(s.Opts), make([]byte, len(got.Opts)-len(s.Opts))...)
			if len(got.Opts) >= len(s.Opts)+4 || !bytes.Equal(got.Opts, want) || e != api.OK {
				t.Fatalf("%v: %v, %v", s, got, e)
			}
			if got.Opts = s.Opts; !sameSec(got, s) {
				t.Fatalf("%v: %v", s, got)
			}
		}
	}
}

func TestArgumentsStay(t *testing.T) { // P9.1 to P9.4
	for _, little := range orders() {
		s := Sec{Major: 1, Minor: 2, Len: -1, Opts: random(1, 8)[:5]} // behind its end, within its capacity, lie bytes that are not its own
		opts := slices.Clone(s.Opts[:8])
		k := s.Block(little)
		k.Body = append(k.Body, 1, 2, 3, 4)[:len(k.Body)]
		body := slices.Clone(k.Body[:len(k.Body)+4])
		b, _ := k.Bytes(little)
		b = append(b, 1, 2, 3, 4)[:len(b)]
		before := slices.Clone(b[:len(b)+4])
		Size(b, little, 64)
		Turn(b)
		Open(b, little, 64, 0)
		k.Sec(little)
		k.Bytes(little)
		s.Block(little)
		if !bytes.Equal(s.Opts[:8], opts) || !bytes.Equal(k.Body[:len(k.Body)+4], body) || !bytes.Equal(b[:len(b)+4], before) {
			t.Errorf("%x became %x, %x became %x, %x became %x", opts, s.Opts[:8], body, k.Body, before, b)
		}
	}
}

func TestResultsInMemoryOfTheirOwn(t *testing.T) { // P9.2, P9.3, P9.4
	for _, little := range orders() {
		s := Sec{Major: 1, Minor: 2, Len: -1, Opts: random(1, 8)}
		wantSec := Sec{Major: 1, Minor: 2, Len: -1, Opts: random(1, 8)}
		k := s.Block(little)
		clear(s.Opts)
		b, _ := k.Bytes(little)
		want := Block{Kind: k.Kind, Body: slices.Clone(k.Body)}
		clear(k.Body)
		opened, _, err := Open(b, little, 64, 0)
		clear(b)
		if !same(opened, want) || err != nil {
			t.Errorf("%v, %v, want %v", opened, err, want)
		}
		got, e := opened.Sec(little)
		clear(opened.Body)
		if !sameSec(got, wantSec) || e != api.OK {
			t.Errorf("%v, %v, want %v", got, e, wantSec)
		}
	}
}
