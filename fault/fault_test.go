package fault

import (
	"errors"
	"fmt"
	"math"
	"math/rand/v2"
	"slices"
	"strings"
	"testing"

	"horologe/api"
)

// kinds and offsets are numbers of all lengths, on both sides of 0.
var (
	kinds   = []api.Errno{1, 2, 9, 10, 120, 121, 122, 125, 1000, -1, -7, -120, math.MaxInt32, math.MinInt32, math.MaxInt64, math.MinInt64}
	offsets = []int64{0, 1, -1, 9, 10, -10, 24, 100, 4294967296, math.MaxInt64, math.MinInt64}
)

// shell is somebody else's error around another one.
type shell struct{ inner error }

func (s shell) Error() string { return "shell" }
func (s shell) Unwrap() error { return s.inner }

// crowd is somebody else's error around several, and it can't be compared.
type crowd []error

func (c crowd) Error() string   { return "crowd" }
func (c crowd) Unwrap() []error { return c }

// teller is somebody else's error that tells a sort by its methods, and wraps nothing.
type teller struct{ sort Sort }

func (t teller) Error() string        { return "teller" }
func (t teller) Is(target error) bool { return target == error(t.sort) }
func (t teller) As(target any) bool {
	s, ok := target.(*Sort)
	if ok {
		*s = t.sort
	}
	return ok
}

// hinter writes what it is asked for, and then says that it has none.
type hinter struct{}

func (hinter) Error() string { return "hinter" }
func (hinter) As(target any) bool {
	if s, ok := target.(*Sort); ok {
		*s = 77
	}
	return false
}

// braggart says of everything that it is that.
type braggart struct{}

func (braggart) Error() string     { return "braggart" }
func (braggart) As(any) bool       { return true }
func (braggart) Is(err error) bool { return true }

// ring wraps itself.
type ring struct{}

func (ring) Error() string { return "ring" }
func (ring) Unwrap() error { return ring{} }

// thicket wraps itself twice.
type thicket struct{}

func (thicket) Error() string   { return "thicket" }
func (thicket) Unwrap() []error { return []error{thicket{}, thicket{}} }

// wrapped returns err with a note for each word, the first word's outermost.
func wrapped(err error, words ...string) error {
	for _, word := range slices.Backward(words) {
		err = Wrap(err, word)
	}
	return err
}

func TestSort(t *testing.T) { // P6.1
	for s, want := range map[Sort]string{0: "kind 0", 1: "kind 1", Sort(api.ErrSnap): "kind 122", -7: "kind -7", math.MinInt64: "kind -9223372036854775808"} {
		if got := s.Error(); got != want {
			t.Errorf("Sort(%d): %q", int(s), got)
		}
	}
}

func TestNew(t *testing.T) { // P6.1, P6.2, P6.3
	for _, kind := range kinds {
		for _, off := range offsets {
			err := New(kind, off)
			want := fmt.Sprintf("kind %d at %d", kind, off)
			if err == nil || err.Error() != want {
				t.Fatalf("New(%d, %d): %v", kind, off, err)
			}
			if s, ok := Line(err); s != want || !ok {
				t.Errorf("%q: Line: %q, %v", want, s, ok)
			}
			if inner := errors.Unwrap(err); inner != error(Sort(kind)) {
				t.Errorf("%q wraps %v", want, inner)
			}
			if k, ok := Kind(err); k != kind || !ok {
				t.Errorf("%q: Kind: %d, %v", want, k, ok)
			}
			if o, ok := Off(err); o != off || !ok {
				t.Errorf("%q: Off: %d, %v", want, o, ok)
			}
			if !Is(err, kind) || Is(err, kind+1) || !errors.Is(err, Sort(kind)) {
				t.Errorf("%q has another sort", want)
			}
		}
	}
}

func TestNewOfNoKind(t *testing.T) { // P6.1
	for _, off := range offsets {
		if err := New(api.OK, off); err != nil {
			t.Errorf("New(OK, %d): %v", off, err)
		}
	}
}

func TestWrapOfNothing(t *testing.T) { // P6.1
	for _, word := range []string{"", "x", "Great Word"} {
		if err := Wrap(nil, word); err != nil {
			t.Errorf("Wrap(nil, %q): %v", word, err)
		}
	}
}

func TestWrap(t *testing.T) { // P6.1
	for _, inner := range []error{New(5, 6), Sort(5), errors.New("x"), errors.New(""), crowd{}, shell{}, errors.Join(errors.New("a"), errors.New("b"))} {
		err := Wrap(inner, "word")
		if want := "word: " + inner.Error(); err.Error() != want {
			t.Errorf("%q is not %q", err.Error(), want)
		}
		if again := Wrap(err, "outer"); again.Error() != "outer: word: "+inner.Error() || errors.Unwrap(again) != err {
			t.Errorf("%q wraps %v", again.Error(), errors.Unwrap(again))
		}
	}
}

// isWord tells of a word, by itself, whether a note has it.
func isWord(word string) bool {
	for _, c := range []byte(word) {
		if !(c >= 'a' && c <= 'z' || c >= '0' && c <= '9' || c == '-') {
			return false
		}
	}
	return len(word) >= 1 && len(word) <= 32
}

// checkWord holds Wrap and Parse against a word.
func checkWord(t *testing.T, word string) {
	t.Helper()
	want := "?"
	if isWord(word) {
		want = word
	}
	err := Wrap(New(3, 4), word)
	if got := Notes(err); !slices.Equal(got, []string{want}) || err.Error() != want+": kind 3 at 4" {
		t.Errorf("Wrap with %q: %q, %q", word, got, err.Error())
	}
	s := word + ": kind 3 at 4"
	if err, ok := Parse(s); ok != (word == want) || ok && err.Error() != s {
		t.Errorf("Parse(%q): %v, %v", s, err, ok)
	}
}

func TestWords(t *testing.T) { // P6.1, P6.3
	for n := range 70 {
		for _, c := range []string{"a", "z", "0", "9", "-", "A", " ", "é", "?"} {
			checkWord(t, strings.Repeat(c, n))
		}
	}
	for c := range 256 {
		b := string([]byte{byte(c)})
		for _, word := range []string{b, b + "a", "a" + b, "a" + b + "a", "a" + b + b + "a", strings.Repeat("a", 31) + b} {
			if !strings.Contains(word, ": ") {
				checkWord(t, word)
			}
		}
	}
	if err := Wrap(New(3, 4), "a: b"); err.Error() != "?: kind 3 at 4" {
		t.Errorf("%q", err)
	}
	for _, word := range []string{"", "?", "??", "a?", "ß", "\u0131", "\u0660", "ａ", "\u2010", "a:", ":a", ":", "a-1", "--", "-", "\xc3", "a\x00", "K", "ſ"} {
		checkWord(t, word)
	}
}

func TestMaxNotes(t *testing.T) { // P6.1
	for n := range 13 {
		err := New(1, 2)
		for i := range n {
			err = Wrap(err, strings.Repeat("a", i+1))
		}
		if got, want := len(Notes(err)), min(n, 8); got != want {
			t.Errorf("%d of %d notes", got, n)
		}
		again := Wrap(err, "more")
		if same := again == err; same != (n >= 8) {
			t.Errorf("of %d notes the next one is left out: %v", n, same)
		}
	}
}

func TestMaxNotesInTheChain(t *testing.T) { // P6.1: the notes below other errors count too
	for under := range 9 {
		for over := range 9 {
			err := error(shell{errors.New("x")})
			for range under {
				err = Wrap(err, "under")
			}
			err = shell{shell{err}}
			for i := range over {
				before := err
				err = Wrap(err, "over")
				if same := err == before; same != (under+i >= 8) {
					t.Errorf("%d and %d notes: the next one is left out: %v", under, i, same)
				}
			}
		}
	}
}

func TestMaxNotesBesideTheChain(t *testing.T) { // P6.1: what wraps several errors ends the chain
	full := New(1, 2)
	for range 8 {
		full = Wrap(full, "a")
	}
	joined := errors.Join(full, full)
	if err := Wrap(joined, "b"); err == joined || !slices.Equal(Notes(err), []string{"b"}) {
		t.Errorf("%q", err)
	}
	of := crowd{full}
	if err := Wrap(of, "b"); !slices.Equal(Notes(err), []string{"b"}) {
		t.Errorf("%q", err)
	}
}

// found is an error, and what is to be found in it.
type found struct {
	err   error
	kind  api.Errno
	isOf  bool
	off   int64
	hasIt bool
}

func TestKindAndOff(t *testing.T) { // P6.2
	plain := errors.New("x")
	for _, c := range []found{
		{},
		{err: plain},
		{err: Wrap(plain, "a")},
		{err: shell{}},
		{err: crowd{}},
		{err: crowd{nil, nil}},
		{err: crowd{nil, New(5, 9)}, kind: 5, isOf: true, off: 9, hasIt: true},
		{err: Sort(5), kind: 5, isOf: true},
		{err: Sort(api.OK), isOf: true},
		{err: wrapped(Sort(-5), "a", "b"), kind: -5, isOf: true},
		{err: New(5, 9), kind: 5, isOf: true, off: 9, hasIt: true},
		{err: wrapped(New(5, 9), "a", "b"), kind: 5, isOf: true, off: 9, hasIt: true},
		{err: shell{New(5, 9)}, kind: 5, isOf: true, off: 9, hasIt: true},
		{err: Wrap(shell{Wrap(New(5, -9), "a")}, "b"), kind: 5, isOf: true, off: -9, hasIt: true},
		{err: fmt.Errorf("y: %w", Wrap(New(5, 9), "a")), kind: 5, isOf: true, off: 9, hasIt: true},
		{err: errors.Join(plain, Wrap(New(3, 1), "a"), New(4, 2)), kind: 3, isOf: true, off: 1, hasIt: true},
		{err: errors.Join(Sort(6), New(4, 2)), kind: 6, isOf: true, off: 2, hasIt: true},
		{err: errors.Join(shell{shell{New(4, 2)}}, Sort(6)), kind: 4, isOf: true, off: 2, hasIt: true},
		{err: Wrap(crowd{shell{crowd{plain}}, Wrap(crowd{plain, New(7, 0)}, "a"), New(8, 1)}, "b"), kind: 7, isOf: true, hasIt: true},
		{err: teller{9}, kind: 9, isOf: true},
		{err: Wrap(teller{9}, "a"), kind: 9, isOf: true},
		{err: crowd{teller{9}, New(8, 3)}, kind: 9, isOf: true, off: 3, hasIt: true},
		{err: hinter{}},
		{err: Wrap(hinter{}, "a")},
	} {
		if kind, ok := Kind(c.err); kind != c.kind || ok != c.isOf {
			t.Errorf("Kind of %v: %d, %v", c.err, kind, ok)
		}
		if off, ok := Off(c.err); off != c.off || ok != c.hasIt {
			t.Errorf("Off of %v: %d, %v", c.err, off, ok)
		}
	}
}

func TestIs(t *testing.T) { // P6.2
	for _, c := range []struct {
		err  error
		want []api.Errno
	}{
		{nil, nil},
		{errors.New("kind 3"), nil},
		{Wrap(errors.New("x"), "a"), nil},
		{Sort(3), []api.Errno{3}},
		{Sort(0), []api.Errno{0}},
		{New(3, 4), []api.Errno{3}},
		{wrapped(New(3, 4), "a", "b"), []api.Errno{3}},
		{shell{New(3, 4)}, []api.Errno{3}},
		{errors.Join(New(3, 5), New(4, 5), Sort(6)), []api.Errno{3, 4, 6}},
		{Wrap(crowd{nil, shell{}, crowd{Wrap(New(1, 1), "a")}, New(2, 2)}, "b"), []api.Errno{1, 2}},
		{Wrap(teller{5}, "a"), []api.Errno{5}},
		{hinter{}, nil},
	} {
		for kind := api.Errno(-1); kind < 9; kind++ {
			if got := Is(c.err, kind); got != slices.Contains(c.want, kind) {
				t.Errorf("Is(%v, %d): %v", c.err, kind, got)
			}
		}
	}
}

func TestNotes(t *testing.T) { // P6.2
	inner := wrapped(New(3, 4), "c", "d")
	for _, c := range []struct {
		err  error
		want []string
	}{
		{nil, nil},
		{errors.New("a: kind 3 at 4"), nil},
		{Sort(3), nil},
		{New(3, 4), nil},
		{inner, []string{"c", "d"}},
		{wrapped(inner, "a", "Ä", "b"), []string{"a", "?", "b", "c", "d"}},
		{wrapped(Sort(3), "a", "b"), []string{"a", "b"}},
		{wrapped(errors.New("x"), "a", "b"), []string{"a", "b"}},
		{shell{inner}, nil},
		{wrapped(shell{inner}, "a", "b"), []string{"a", "b"}},
		{errors.Join(inner), nil},
		{Wrap(errors.Join(inner), "a"), []string{"a"}},
	} {
		if got := Notes(c.err); !slices.Equal(got, c.want) {
			t.Errorf("Notes of %v: %q, want %q", c.err, got, c.want)
		}
	}
}

func TestLine(t *testing.T) { // P6.3
	for _, c := range []struct {
		err  error
		want string
	}{
		{New(3, 4), "kind 3 at 4"},
		{Wrap(New(-3, -4), "a"), "a: kind -3 at -4"},
		{wrapped(New(122, 24), "file", "BLOCK", "b-1"), "file: ?: b-1: kind 122 at 24"},
		{nil, ""},
		{Sort(3), ""},
		{Wrap(Sort(3), "a"), ""},
		{errors.New("kind 3 at 4"), ""},
		{wrapped(errors.New("kind 3 at 4"), "a", "b"), ""},
		{shell{New(3, 4)}, ""},
		{wrapped(shell{New(3, 4)}, "a", "b"), ""},
		{errors.Join(New(3, 4)), ""},
		{Wrap(errors.Join(New(3, 4)), "a"), ""},
		{crowd{New(3, 4)}, ""},
		{hinter{}, ""},
		{teller{3}, ""},
	} {
		if got, ok := Line(c.err); got != c.want || ok != (c.want != "") {
			t.Errorf("Line of %v: %q, %v", c.err, got, ok)
		}
	}
}

// line returns a line of some words, kind and offset, and these.
func line(random *rand.Rand) (s string, words []string, kind api.Errno, off int64) {
	choice := []string{"?", "a", "-", "0", "kind", "at", "feed", "pcap-2", strings.Repeat("z", 32)}
	for range random.IntN(MaxNotes + 1) {
		words = append(words, choice[random.IntN(len(choice))])
	}
	kind, off = kinds[random.IntN(len(kinds))], offsets[random.IntN(len(offsets))]
	fault := fmt.Sprintf("kind %d at %d", kind, off)
	return strings.Join(append(slices.Clone(words), fault), ": "), words, kind, off
}

func TestParse(t *testing.T) { // P6.3, P6.4
	random := rand.New(rand.NewPCG(6, 1))
	for range 5000 {
		s, words, kind, off := line(random)
		err, ok := Parse(s)
		if !ok {
			t.Fatalf("Parse(%q) is false", s)
		}
		if got, ok := Line(err); got != s || !ok || err.Error() != s {
			t.Errorf("%q is %q, %v, again: %v", s, got, ok, err)
		}
		gotKind, _ := Kind(err)
		gotOff, _ := Off(err)
		if gotKind != kind || gotOff != off || !slices.Equal(Notes(err), words) || !Is(err, kind) {
			t.Errorf("%q: %d, %d, %q", s, gotKind, gotOff, Notes(err))
		}
	}
}

func TestParseTheLongest(t *testing.T) { // P6.3
	s := strings.Repeat(strings.Repeat("a", 32)+": ", 8) + "kind -9223372036854775808 at -9223372036854775808"
	if err, ok := Parse(s); !ok || err.Error() != s {
		t.Errorf("%v, %v", err, ok)
	}
}

func TestParseOfOther(t *testing.T) { // P6.3
	for _, s := range []string{
		"", " ", ":", ": ", "a", "?", "a: ", "a:", "kind", "kind 1", "kind 1 at", "kind 1 at ", "kind at 1", "at 1", "1 at 1",
		"kind 0 at 0", "kind -0 at 1", "kind 0 at 1", "kind 00 at 1", "kind 01 at 1", "kind 1 at 01", "kind 1 at -0", "kind +1 at 1", "kind 1 at +1",
		"kind 1 at 1 ", " kind 1 at 1", "kind  1 at 1", "kind 1  at 1", "kind 1 at  1", "kind 1 at 1 1", "kind\t1 at 1", "kind 1 at 1\n", "\nkind 1 at 1",
		"Kind 1 at 1", "kind 1 At 1", "kind 1 in 1", "sort 1 at 1", "kind a at 1", "kind 1 at a", "kind 0x1 at 1", "kind 1.0 at 1", "kind 1 at 1e1",
		"kind 9223372036854775808 at 1", "kind -9223372036854775809 at 1", "kind 1 at 9223372036854775808", "kind 1 at -9223372036854775809",
		"kind 18446744073709551617 at 1", "kind 1 at 18446744073709551617",
		"a:kind 1 at 1", "a : kind 1 at 1", "a:  kind 1 at 1", " a: kind 1 at 1", "a: kind 1 at 1:", "a: kind 1 at 1: ", "a: kind 1 at 1: b", ": kind 1 at 1", "a: : kind 1 at 1",
		"A: kind 1 at 1", "a?: kind 1 at 1", "??: kind 1 at 1", "a b: kind 1 at 1", "a_b: kind 1 at 1", "é: kind 1 at 1", "\xff: kind 1 at 1", "a:b: kind 1 at 1",
		"a: b: c: d: e: f: g: h: i: kind 1 at 1", "kind 1 at 1: kind 1 at 1", strings.Repeat("a", 33) + ": kind 1 at 1",
		strings.Repeat("a: ", 200) + "kind 1 at 1", strings.Repeat(" ", 401), strings.Repeat("a: ", 1<<20), "kind 1 at " + strings.Repeat("1", 1<<20),
	} {
		if err, ok := Parse(s); ok || err != nil {
			t.Errorf("Parse(%.80q): %v, %v", s, err, ok)
		}
	}
}

func TestParseOfDamage(t *testing.T) { // P6.3, P6.4: what is parsed has that line, and nothing else is
	random := rand.New(rand.NewPCG(6, 2))
	letters := []string{"", " ", ":", ": ", "a", "A", "-", "0", "1", "?", "\n", "é"}
	for range 50000 {
		s, _, _, _ := line(random)
		at := random.IntN(len(s))
		s = s[:at] + letters[random.IntN(len(letters))] + s[min(len(s), at+random.IntN(2)):]
		err, ok := Parse(s)
		if again, is := Line(err); ok != is || again != s && ok || (err == nil) == ok {
			t.Errorf("Parse(%q): %v, %v", s, err, ok)
		}
		if want := isLine(s); ok != want {
			t.Errorf("Parse(%q): %v, %v, want %v", s, err, ok, want)
		}
	}
}

// isLine tells, by itself, whether s is a line.
func isLine(s string) bool {
	words := strings.Split(s, ": ")
	last := len(words) - 1
	for _, word := range words[:last] {
		if word != "?" && !isWord(word) {
			return false
		}
	}
	var kind, off int64
	n, _ := fmt.Sscanf(words[last], "kind %d at %d", &kind, &off)
	return last <= 8 && n == 2 && kind != 0 && words[last] == fmt.Sprintf("kind %d at %d", kind, off)
}

func TestIdentity(t *testing.T) { // P6.4
	random := rand.New(rand.NewPCG(6, 3))
	for range 2000 {
		kind, off := kinds[random.IntN(len(kinds))], offsets[random.IntN(len(offsets))]
		err := New(kind, off)
		for range random.IntN(20) {
			switch random.IntN(5) {
			case 0:
				err = shell{err}
			case 1:
				err = fmt.Errorf("here: %w", err)
			case 2:
				err = errors.Join(errors.New("x"), err)
			default:
				err = Wrap(err, "a")
			}
		}
		gotKind, isOf := Kind(err)
		gotOff, hasIt := Off(err)
		if gotKind != kind || gotOff != off || !isOf || !hasIt || !Is(err, kind) || Is(err, kind+1) {
			t.Errorf("%q: %d, %d, %v, %v", err, gotKind, gotOff, isOf, hasIt)
		}
	}
}

func TestNotesAreNew(t *testing.T) { // R3
	err := wrapped(New(1, 2), "a", "b")
	Notes(err)[0] = "c"
	if got := Notes(err); !slices.Equal(got, []string{"a", "b"}) {
		t.Error(got)
	}
}

func TestErrorsWithoutEnd(t *testing.T) { // R1
	for _, inner := range []error{ring{}, thicket{}, shell{ring{}}, crowd{ring{}, nil}, errors.Join(thicket{}, ring{})} {
		err := wrapped(inner, "a", "b")
		if got := Notes(err); !slices.Equal(got, []string{"a", "b"}) {
			t.Errorf("%T: %q", inner, got)
		}
		if s, ok := Line(err); ok || s != "" {
			t.Errorf("%T: %q", inner, s)
		}
		if kind, ok := Kind(err); ok || kind != api.OK {
			t.Errorf("%T: kind %d", inner, kind)
		}
		if off, ok := Off(err); ok || off != 0 {
			t.Errorf("%T: at %d", inner, off)
		}
		if Is(err, api.ErrArg) {
			t.Errorf("%T is ErrArg", inner)
		}
	}
}

func TestErrorsThatLie(t *testing.T) { // R1: none of these panics
	for _, err := range []error{braggart{}, Wrap(braggart{}, "a"), crowd{braggart{}, New(1, 2)}} {
		Kind(err)
		Off(err)
		Is(err, api.ErrArg)
		Notes(err)
		Line(err)
	}
}

func TestErrorsThatCannotBeCompared(t *testing.T) { // R1
	one, two := Wrap(crowd{New(1, 2)}, "a"), Wrap(crowd{New(1, 2)}, "a")
	if errors.Is(one, two) || !errors.Is(one, one) || !Is(one, 1) || Is(one, 2) {
		t.Error("a note is another one")
	}
}

func TestManyErrors(t *testing.T) { // P6.1, P6.2, P6.4
	err := New(api.ErrShort, 7)
	for range MaxNotes {
		err = Wrap(err, "a")
	}
	for range 100000 {
		err = shell{err}
	}
	if Wrap(err, "b") != err {
		t.Error("a note too many")
	}
	kind, isOf := Kind(err)
	off, hasIt := Off(err)
	if kind != api.ErrShort || off != 7 || !isOf || !hasIt || !Is(err, api.ErrShort) || Is(err, api.ErrSnap) {
		t.Error(kind, off, isOf, hasIt)
	}
}

func TestExamples(t *testing.T) { // the chapter's
	err := Wrap(Wrap(New(api.ErrSnap, 24), "block"), "file")
	if s, ok := Line(err); s != "file: block: kind 122 at 24" || !ok {
		t.Error(s, ok)
	}
	kind, isOf := Kind(err)
	off, hasIt := Off(err)
	if kind != 122 || off != 24 || !isOf || !hasIt || !Is(err, api.ErrSnap) || Is(err, api.ErrBlock) {
		t.Error(kind, off, isOf, hasIt)
	}
	if Wrap(nil, "x") != nil || New(api.OK, 5) != nil {
		t.Error("an error of nothing")
	}
}
