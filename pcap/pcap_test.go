package pcap

import (
	"bytes"
	"encoding/binary"
	"math"
	"math/big"
	"slices"
	"strings"
	"testing"

	"horologe/api"
	"horologe/era"
	"horologe/fix"
	"horologe/wide"
)

// starts are the first bytes of all files, as the chapter writes the magic numbers, and of what file they are.
func starts() map[string]File {
	return map[string]File{
		"\xa1\xb2\xc3\xd4": {},
		"\xa1\xb2\x3c\x4d": {Nano: true},
		"\xd4\xc3\xb2\xa1": {Little: true},
		"\x4d\x3c\xb2\xa1": {Little: true, Nano: true},
	}
}

// beginning tells whether s, or its first four bytes, are the beginning of a magic number.
func beginning(s string) bool {
	for start := range starts() {
		if strings.HasPrefix(start, s[:min(len(s), 4)]) {
			return true
		}
	}
	return false
}

// mixer yields the same numbers in every run.
type mixer uint64

func (m *mixer) next() uint64 {
	*m += 0x9e3779b97f4a7c15
	z := uint64(*m)
	z = (z ^ z>>30) * 0xbf58476d1ce4e5b9
	z = (z ^ z>>27) * 0x94d049bb133111eb
	return z ^ z>>31
}

// files are files of all four kinds, with links and snap lengths at the edges and in the middle.
func files() []File {
	l := []File{}
	for _, link := range []uint16{0, 1, 101, 113, 0x00ff, 0x0102, 0x8000, math.MaxUint16} {
		for _, snap := range []uint32{0, 1, 65535, 262144, 0x01020304, 0x80000000, math.MaxUint32} {
			for _, f := range starts() {
				l = append(l, File{Little: f.Little, Nano: f.Nano, Link: link, Snap: snap})
			}
		}
	}
	return l
}

// kinds are the four kinds of files.
func kinds() []File {
	return []File{{}, {Nano: true}, {Little: true}, {Little: true, Nano: true}}
}

// order returns the byte order of a file.
func order(f File) binary.AppendByteOrder {
	if f.Little {
		return binary.LittleEndian
	}
	return binary.BigEndian
}

// den returns how many fractions a second has.
func den(f File) uint64 {
	if f.Nano {
		return 1000000000
	}
	return 1000000
}

// fileHeader returns a file header, field by field.
func fileHeader(f File, major, minor uint16, zone, accuracy, snap, link uint32) []byte {
	magic := uint32(0xa1b2c3d4)
	if f.Nano {
		magic = 0xa1b23c4d
	}
	o := order(f)
	b := o.AppendUint32(nil, magic)
	b = o.AppendUint16(o.AppendUint16(b, major), minor)
	b = o.AppendUint32(o.AppendUint32(b, zone), accuracy)
	return o.AppendUint32(o.AppendUint32(b, snap), link)
}

// recordHeader returns a record header, field by field.
func recordHeader(f File, h Head) []byte {
	o := order(f)
	b := o.AppendUint32(o.AppendUint32(nil, h.Sec), h.Part)
	return o.AppendUint32(o.AppendUint32(b, h.Cap), h.Len)
}

// numbers are numbers of 32 bits: at the edges, around the resolutions, and mixed ones.
func numbers() []uint32 {
	l := []uint32{0, 1, 2, 255, 256, 65535, 65536, 0x01020304, 1<<31 - 1, 1 << 31, 1<<31 + 1, math.MaxUint32 - 1, math.MaxUint32}
	for _, n := range []uint32{1000000, 1000000000} {
		l = append(l, n/2, n-2, n-1, n, n+1, 2*n)
	}
	m := mixer(1)
	for range 10 {
		l = append(l, uint32(m.next()))
	}
	return l
}

// exact returns the value of a wide number.
func exact(w api.Wide) *big.Int {
	n := new(big.Int).Lsh(big.NewInt(w.Hi), 64)
	return n.Add(n, new(big.Int).SetUint64(w.Lo))
}

func TestConstants(t *testing.T) { // P8.1
	if FileBytes != 24 || HeadBytes != 16 || Micro != 0xa1b2c3d4 || Nano != 0xa1b23c4d {
		t.Error(FileBytes, HeadBytes, Micro, Nano)
	}
}

func TestMagic(t *testing.T) { // P8.1
	for s, want := range starts() {
		for _, rest := range []string{"", "\x00", "\xff\xff\xff\xff", s, strings.Repeat("\xa5", 100)} {
			if f, is := Magic([]byte(s + rest)); f != want || !is {
				t.Errorf("%x: %v, %v", s+rest, f, is)
			}
		}
	}
}

func TestMagicOfWrong(t *testing.T) { // P8.1
	digits := "\xa1\xb2\xc3\xd4\x3c\x4d\x00"
	for i := range 7 * 7 * 7 * 7 {
		s := string([]byte{digits[i%7], digits[i/7%7], digits[i/49%7], digits[i/343]})
		want, may := starts()[s]
		for _, rest := range []string{"", "\xd4\xc3\xb2\xa1"} {
			if f, is := Magic([]byte(s + rest)); f != want || is != may {
				t.Errorf("%x: %v, %v", s+rest, f, is)
			}
		}
	}
	for s := range starts() {
		for bit := range 32 {
			b := []byte(s)
			b[bit/8] ^= 1 << (bit % 8)
			if f, is := Magic(b); f != (File{}) || is {
				t.Errorf("%x: %v, %v", b, f, is)
			}
		}
	}
}

func TestMagicOfTooFewBytes(t *testing.T) { // P8.1
	if f, is := Magic(nil); f != (File{}) || is {
		t.Errorf("no bytes: %v, %v", f, is)
	}
	for s := range starts() {
		for n := range 4 {
			// The bytes that are missing lie behind the slice's end, where they are not to be read.
			if f, is := Magic([]byte(s)[:n]); f != (File{}) || is {
				t.Errorf("%x: %v, %v", s[:n], f, is)
			}
		}
	}
}

func TestOpen(t *testing.T) { // P8.1
	for _, f := range files() {
		for _, c := range []struct {
			minor          uint16
			zone, accuracy uint32
			upper          uint32
		}{{4, 0, 0, 0}, {0, 0, 0, 0}, {math.MaxUint16, 1, 2, 1 << 16}, {2, math.MaxUint32, math.MaxUint32, 0xffff0000}, {5, 0x01020304, 0x05060708, 0x08090000}} {
			b := fileHeader(f, 2, c.minor, c.zone, c.accuracy, f.Snap, c.upper|uint32(f.Link))
			for _, rest := range []int{0, 1, 16, 1000} {
				got, e := Open(append(slices.Clone(b), bytes.Repeat([]byte{0xa5}, rest)...))
				if got != f || e != api.OK {
					t.Fatalf("%x and %d bytes: %v, %v, want %v", b, rest, got, e, f)
				}
			}
		}
	}
}

func TestOpenOfTooFewBytes(t *testing.T) { // P8.1
	for _, f := range files() {
		for _, major := range []uint16{2, 3} { // a version that is not read is no other one
			b := fileHeader(f, major, 4, 0, 0, f.Snap, uint32(f.Link))
			for n := range FileBytes {
				if got, e := Open(b[:n]); got != (File{}) || e != api.ErrShort {
					t.Fatalf("%x: %v, %v", b[:n], got, e)
				}
			}
		}
	}
	if got, e := Open(nil); got != (File{}) || e != api.ErrShort {
		t.Errorf("no bytes: %v, %v", got, e)
	}
}

func TestOpenOfNoMagic(t *testing.T) { // P8.1
	for _, f := range kinds() {
		for _, major := range []uint16{2, 3} { // an error of the magic number comes before one of the version
			b := fileHeader(f, major, 4, 0, 0, 262144, 1)
			for bit := range 32 {
				bad := slices.Clone(b)
				bad[bit/8] ^= 1 << (bit % 8)
				for n := range FileBytes + 1 {
					want := api.ErrMagic
					if n < 4 && beginning(string(bad[:n])) {
						want = api.ErrShort
					}
					if got, e := Open(bad[:n]); got != (File{}) || e != want {
						t.Fatalf("%x: %v, %v, want %v", bad[:n], got, e, want)
					}
				}
			}
		}
	}
	for _, s := range []string{"\n\r\r\n", "\x00", "\xd4\xc4", "\xd4\xb2", "\xa1\xb2\xc3\x4d", "\xa1\xb2\x3c\xd4", "\x4d\x3c\xb2\xa2", "\xb2\xc3\xd4", strings.Repeat("\x00", 24), strings.Repeat("\xff", 30)} {
		if got, e := Open([]byte(s)); got != (File{}) || e != api.ErrMagic {
			t.Errorf("%x: %v, %v", s, got, e)
		}
	}
}

func TestOpenOfEachFirstBytes(t *testing.T) { // P8.1
	for i := range 1 << 16 {
		for _, s := range []string{string([]byte{byte(i >> 8), byte(i)}), string([]byte{byte(i >> 8)})} {
			want := api.ErrMagic
			if beginning(s) {
				want = api.ErrShort
			}
			if got, e := Open([]byte(s)); got != (File{}) || e != want {
				t.Fatalf("%x: %v, %v, want %v", s, got, e, want)
			}
		}
	}
}

func TestOpenOfOtherVersion(t *testing.T) { // P8.1
	for _, f := range kinds() {
		for _, major := range []uint16{0, 1, 3, 4, 0x0200, 0x0202, 0x0102, 0x8002, math.MaxUint16} {
			b := fileHeader(f, major, 2, 0, 0, 262144, 1)
			for _, rest := range []int{0, 1, 100} {
				if got, e := Open(append(slices.Clone(b), make([]byte, rest)...)); got != (File{}) || e != api.ErrOther {
					t.Errorf("%x and %d bytes: %v, %v", b, rest, got, e)
				}
			}
		}
	}
}

func TestExamplesOfOpen(t *testing.T) { // P8.1
	if f, e := Open([]byte{0xd4, 0xc3}); f != (File{}) || e != api.ErrShort {
		t.Errorf("d4c3: %v, %v", f, e)
	}
	if f, e := Open([]byte{0xd4, 0xc4}); f != (File{}) || e != api.ErrMagic {
		t.Errorf("d4c4: %v, %v", f, e)
	}
}

func TestBytes(t *testing.T) { // P8.1
	for _, f := range files() {
		want := fileHeader(f, 2, 4, 0, 0, f.Snap, uint32(f.Link))
		if b := f.Bytes(); !bytes.Equal(b, want) {
			t.Errorf("%v: %x, want %x", f, b, want)
		}
	}
}

func TestBytesOfWrittenOut(t *testing.T) { // P8.1
	for want, f := range map[string]File{
		"\xd4\xc3\xb2\xa1\x02\x00\x04\x00\x00\x00\x00\x00\x00\x00\x00\x00\x00\x00\x04\x00\x01\x00\x00\x00": {Little: true, Link: 1, Snap: 262144},
		"\xa1\xb2\xc3\xd4\x00\x02\x00\x04\x00\x00\x00\x00\x00\x00\x00\x00\x00\x00\x00\x00\x00\x00\x00\x00": {},
		"\xa1\xb2\x3c\x4d\x00\x02\x00\x04\x00\x00\x00\x00\x00\x00\x00\x00\x01\x02\x03\x04\x00\x00\x05\x06": {Nano: true, Link: 0x0506, Snap: 0x01020304},
		"\x4d\x3c\xb2\xa1\x02\x00\x04\x00\x00\x00\x00\x00\x00\x00\x00\x00\x04\x03\x02\x01\x06\x05\x00\x00": {Little: true, Nano: true, Link: 0x0506, Snap: 0x01020304},
	} {
		if b := f.Bytes(); string(b) != want {
			t.Errorf("%v: %x, want %x", f, b, want)
		}
	}
}

func TestDen(t *testing.T) { // P8.1
	for _, f := range files() {
		if n := f.Den(); n != den(f) {
			t.Errorf("%v: %d", f, n)
		}
	}
}

func TestHead(t *testing.T) { // P8.2
	mosts := []int{math.MinInt, math.MinInt32, -1, 0, 1, 2, 255, 256, 257, 65535, 1 << 20, math.MaxInt32, 1 << 31, math.MaxUint32 - 1, math.MaxUint32, math.MaxUint32 + 1, math.MaxInt}
	for _, f := range kinds() {
		for _, part := range numbers() {
			for _, captured := range numbers() {
				h := Head{Sec: 0x81020304, Part: part, Cap: captured, Len: 0x85060708}
				b := recordHeader(f, h)
				for _, most := range mosts {
					want, sort := h, api.OK
					if uint64(part) >= den(f) {
						want, sort = Head{}, api.ErrBytes
					} else if big.NewInt(int64(captured)).Cmp(big.NewInt(int64(most))) > 0 {
						want, sort = Head{}, api.ErrSnap
					}
					if got, e := f.Head(b, most); got != want || e != sort {
						t.Fatalf("%x of %v, at most %d: %v, %v, want %v, %v", b, f, most, got, e, want, sort)
					}
				}
			}
		}
	}
}

func TestHeadOfAnyNumbers(t *testing.T) { // P8.2
	for _, f := range kinds() {
		for _, n := range numbers() {
			for _, h := range []Head{{Sec: n}, {Len: n}, {Sec: n, Part: 999999, Cap: 90, Len: 89}, {Part: 1, Len: n}} {
				for _, rest := range []int{0, 1, 90, 1000} {
					got, e := f.Head(append(recordHeader(f, h), bytes.Repeat([]byte{0xa5}, rest)...), 90)
					if got != h || e != api.OK {
						t.Fatalf("%v of %v and %d bytes: %v, %v", h, f, rest, got, e)
					}
				}
			}
		}
	}
}

func TestHeadOfTooFewBytes(t *testing.T) { // P8.2
	for _, f := range kinds() {
		for _, h := range []Head{{}, {Sec: 1, Part: 2, Cap: 3, Len: 4}, {Part: math.MaxUint32}, {Cap: math.MaxUint32}} {
			for n := range HeadBytes {
				if got, e := f.Head(recordHeader(f, h)[:n], 10); got != (Head{}) || e != api.ErrShort {
					t.Errorf("%d bytes of %v: %v, %v", n, h, got, e)
				}
			}
		}
		if got, e := f.Head(nil, -1); got != (Head{}) || e != api.ErrShort {
			t.Errorf("no bytes: %v, %v", got, e)
		}
	}
}

func TestPut(t *testing.T) { // P8.2
	m := mixer(2)
	for _, f := range files() {
		for range 20 {
			h := Head{Sec: uint32(m.next()), Part: uint32(m.next()), Cap: uint32(m.next()), Len: uint32(m.next())}
			if b := f.Put(h); !bytes.Equal(b, recordHeader(f, h)) {
				t.Fatalf("%v of %v: %x", h, f, b)
			}
		}
	}
	most := Head{Sec: math.MaxUint32, Part: math.MaxUint32, Cap: math.MaxUint32, Len: math.MaxUint32}
	for _, f := range kinds() {
		if b := f.Put(most); !bytes.Equal(b, bytes.Repeat([]byte{0xff}, 16)) {
			t.Errorf("%v: %x", f, b)
		}
		if b := f.Put(Head{}); !bytes.Equal(b, make([]byte, 16)) {
			t.Errorf("%v: %x", f, b)
		}
	}
}

func TestPutOfWrittenOut(t *testing.T) { // P8.2
	h := Head{Sec: 0x01020304, Part: 0x05060708, Cap: 0x090a0b0c, Len: 0x0d0e0f10}
	if b := (File{}).Put(h); string(b) != "\x01\x02\x03\x04\x05\x06\x07\x08\x09\x0a\x0b\x0c\x0d\x0e\x0f\x10" {
		t.Errorf("big-endian: %x", b)
	}
	if b := (File{Little: true}).Put(h); string(b) != "\x04\x03\x02\x01\x08\x07\x06\x05\x0c\x0b\x0a\x09\x10\x0f\x0e\x0d" {
		t.Errorf("little-endian: %x", b)
	}
}

// moment returns what P8.3 says that At returns, by exact arithmetic.
func moment(f File, h Head) *big.Int {
	units := big.NewInt(math.MaxUint32)
	if uint64(h.Part) < den(f) {
		n := new(big.Int).Lsh(big.NewInt(int64(h.Part)), 32)
		// What is not a multiple is rounded up: the least number that is not smaller.
		n.Add(n, big.NewInt(int64(den(f))-1))
		units = n.Div(n, big.NewInt(int64(den(f))))
	}
	n := new(big.Int).Lsh(big.NewInt(2208988800+int64(h.Sec)), 32)
	return n.Add(n, units)
}

func TestAt(t *testing.T) { // P8.3
	for _, f := range files() {
		for _, sec := range numbers() {
			for _, part := range numbers() {
				h := Head{Sec: sec, Part: part, Cap: part, Len: sec}
				if got := f.At(h); exact(got).Cmp(moment(f, h)) != 0 {
					t.Fatalf("%v of %v: %v, want %v", h, f, exact(got), moment(f, h))
				}
			}
		}
	}
}

func TestAtOfWrittenOut(t *testing.T) { // P8.3
	for _, c := range []struct {
		f     File
		h     Head
		sec   int64
		units uint32
	}{
		{File{}, Head{}, 2208988800, 0},
		{File{}, Head{Part: 500000}, 2208988800, 1 << 31},
		{File{Nano: true}, Head{Part: 500000000}, 2208988800, 1 << 31},
		{File{Nano: true}, Head{Part: 500000}, 2208988800, 2147484},
		{File{}, Head{Sec: 1, Part: 1}, 2208988801, 4295},
		{File{Nano: true}, Head{Sec: 1, Part: 1}, 2208988801, 5},
		{File{}, Head{Part: 999999}, 2208988800, 4294963002},
		{File{Nano: true}, Head{Part: 999999999}, 2208988800, 4294967292},
		{File{}, Head{Part: 1000000}, 2208988800, math.MaxUint32},
		{File{Nano: true}, Head{Part: 1000000}, 2208988800, 4294968},
		{File{Nano: true}, Head{Part: 1000000000}, 2208988800, math.MaxUint32},
		{File{}, Head{Sec: 7, Part: math.MaxUint32}, 2208988807, math.MaxUint32},
		{File{}, Head{Sec: math.MaxUint32, Part: 999999}, 6503956095, 4294963002},
	} {
		if got, want := c.f.At(c.h), fix.Moment(c.sec, c.units); got != want {
			t.Errorf("%v of %v: %v, want %v", c.h, c.f, got, want)
		}
	}
}

// checkWhen holds what When answers against exact arithmetic.
func checkWhen(t *testing.T, f File, at api.Wide) {
	t.Helper()
	since := new(big.Int).Lsh(big.NewInt(2208988800), 32)
	since.Sub(exact(at), since)
	want, may := [2]uint32{}, since.Sign() >= 0 && since.BitLen() <= 64
	if may {
		units := new(big.Int).SetUint64(since.Uint64() % (1 << 32))
		part := units.Rsh(units.Mul(units, new(big.Int).SetUint64(den(f))), 32)
		want = [2]uint32{uint32(since.Uint64() >> 32), uint32(part.Uint64())}
	}
	if sec, part, ok := f.When(at); [2]uint32{sec, part} != want || ok != may {
		t.Fatalf("%v of %v: %d, %d, %v, want %v, %v", at, f, sec, part, ok, want, may)
	}
}

// moments are moments around the ends of what a record can have, at the bounds of all moments, and mixed ones.
func moments() []api.Wide {
	l := []api.Wide{{}, {Hi: math.MinInt64}, {Hi: math.MaxInt64, Lo: math.MaxUint64}, {Hi: math.MinInt64, Lo: math.MaxUint64}, {Hi: math.MaxInt64}}
	near := []api.Wide{era.Unix(0, 0), era.Unix(1<<31, 0), era.Unix(1<<32, 0), era.Unix(1<<33, 0), era.Unix(1<<63, 0), era.Unix(math.MaxUint64, math.MaxUint32), {Hi: 1}, {Hi: 2}}
	for _, w := range near {
		for _, d := range []int64{-1 << 32, -1<<31 - 1, -4295, -4294, -5, -4, -1, 0, 1, 4, 5, 4294, 4295, 1 << 31, 1<<32 - 1, 1 << 32} {
			l = append(l, wide.Add(w, wide.Of(d)))
		}
	}
	m := mixer(3)
	for range 2000 {
		l = append(l, era.Unix(m.next()>>(m.next()%64), uint32(m.next())), api.Wide{Hi: int64(m.next()) >> (m.next() % 64), Lo: m.next()})
	}
	return l
}

func TestWhen(t *testing.T) { // P8.3
	for _, f := range kinds() {
		for _, at := range moments() {
			checkWhen(t, f, at)
		}
		for _, sec := range numbers() {
			for _, units := range numbers() {
				checkWhen(t, f, era.Unix(uint64(sec), units))
			}
		}
	}
}

func TestWhenOfWrittenOut(t *testing.T) { // P8.3
	micro, nano := File{Link: 1, Snap: 5}, File{Nano: true, Little: true}
	for _, c := range []struct {
		f         File
		at        api.Wide
		sec, part uint32
		ok        bool
	}{
		{micro, era.Unix(0, 0), 0, 0, true},
		{micro, era.Unix(5, 1<<31), 5, 500000, true},
		{nano, era.Unix(5, 1<<31), 5, 500000000, true},
		{micro, era.Unix(5, 4294), 5, 0, true},
		{micro, era.Unix(5, 4295), 5, 1, true},
		{nano, era.Unix(5, 4), 5, 0, true},
		{nano, era.Unix(5, 5), 5, 1, true},
		{micro, era.Unix(1<<32-1, math.MaxUint32), math.MaxUint32, 999999, true},
		{nano, era.Unix(1<<32-1, math.MaxUint32), math.MaxUint32, 999999999, true},
		{micro, era.Unix(1<<32, 0), 0, 0, false},
		{nano, era.Unix(1<<32+7, 1<<31), 0, 0, false},
		{micro, wide.Sub(era.Unix(0, 0), wide.Of(1)), 0, 0, false},
		{nano, api.Wide{}, 0, 0, false},
		{nano, api.Wide{Hi: math.MaxInt64, Lo: math.MaxUint64}, 0, 0, false},
		{micro, api.Wide{Hi: math.MinInt64}, 0, 0, false},
	} {
		if sec, part, ok := c.f.When(c.at); sec != c.sec || part != c.part || ok != c.ok {
			t.Errorf("%v of %v: %d, %d, %v", c.at, c.f, sec, part, ok)
		}
	}
}

func TestOpenOfBytes(t *testing.T) { // P8.4
	for _, f := range files() {
		b := f.Bytes()
		if got, e := Open(b); got != f || e != api.OK {
			t.Errorf("%v: %v, %v", f, got, e)
		}
		if got, is := Magic(b); got != (File{Little: f.Little, Nano: f.Nano}) || !is {
			t.Errorf("%v: %v, %v", f, got, is)
		}
	}
}

func TestHeadOfPut(t *testing.T) { // P8.4
	for _, f := range kinds() {
		for _, part := range numbers() {
			for _, n := range numbers() {
				h := Head{Sec: n, Part: part, Cap: ^n, Len: n + 1}
				got, e := f.Head(f.Put(h), math.MaxUint32)
				if uint64(part) >= den(f) {
					if got != (Head{}) || e != api.ErrBytes {
						t.Fatalf("%v of %v: %v, %v", h, f, got, e)
					}
				} else if got != h || e != api.OK {
					t.Fatalf("%v of %v: %v, %v", h, f, got, e)
				}
			}
		}
	}
}

// checkTime holds a record's time against what comes back of it.
func checkTime(t *testing.T, f File, sec, part uint32) {
	t.Helper()
	if s, p, ok := f.When(f.At(Head{Sec: sec, Part: part})); s != sec || p != part || !ok {
		t.Fatalf("%d, %d of %v: %d, %d, %v", sec, part, f, s, p, ok)
	}
}

func TestWhenOfAt(t *testing.T) { // P8.4
	micro, nano := File{}, File{Nano: true}
	for part := range uint32(1000000) {
		checkTime(t, micro, part*4294, part)
		checkTime(t, nano, part*4294, part*1000+part%1000)
	}
	m := mixer(4)
	for range 100000 {
		checkTime(t, nano, uint32(m.next()), uint32(m.next()%1000000000))
	}
	for _, f := range kinds() {
		for _, sec := range numbers() {
			for _, part := range numbers() {
				if uint64(part) < den(f) {
					checkTime(t, f, sec, part)
				}
			}
		}
	}
}

func TestArgumentsStay(t *testing.T) { // P8.1, P8.2
	for _, f := range kinds() {
		b := slices.Concat(f.Bytes(), f.Put(Head{Sec: 1, Part: 2, Cap: 3, Len: 4}), bytes.Repeat([]byte{0xa5}, 8))
		before := slices.Clone(b)
		Magic(b[:4])
		Open(b[:24])
		f.Head(b[24:40], 3)
		if !bytes.Equal(b, before) {
			t.Errorf("%v: %x became %x", f, before, b)
		}
	}
}

func TestResultsInMemoryOfTheirOwn(t *testing.T) { // P8.1, P8.2
	f, h := File{Little: true, Link: 1, Snap: 2}, Head{Sec: 1, Part: 2, Cap: 3, Len: 4}
	clear(f.Bytes())
	clear(f.Put(h))
	if got, e := Open(f.Bytes()); got != f || e != api.OK {
		t.Errorf("%v, %v", got, e)
	}
	if got, e := f.Head(f.Put(h), 3); got != h || e != api.OK {
		t.Errorf("%v, %v", got, e)
	}
}
