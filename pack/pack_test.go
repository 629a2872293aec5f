package pack

import (
	"bytes"
	"math"
	"slices"
	"strings"
	"testing"

	"chantry/api"
	"chantry/real"
)

var minusZero = math.Copysign(0, -1)

func num(x uint64) Field    { return Field{Kind: Num, Num: x} }
func text(s string) Field   { return Field{Kind: Text, Text: s} }
func flt(x float64) Field   { return Field{Kind: Real, Real: x} }
func long(n int) Field      { return text(strings.Repeat("t", n)) }
func ofBits(b uint64) Field { return flt(math.Float64frombits(b)) }
func canonNaN() float64     { return real.Canon(math.NaN()) }
func alike(a, b Field) bool {
	return a.Kind == b.Kind && a.Num == b.Num && a.Text == b.Text && math.Float64bits(a.Real) == math.Float64bits(b.Real)
}

// good are fields that may be, with the bytes that the chapter gives them.
func good() []struct {
	f Field
	b string
} {
	return []struct {
		f Field
		b string
	}{
		{num(0), "\x01\x00"},
		{num(1), "\x01\x01\x01"},
		{num(127), "\x01\x01\x7f"},
		{num(128), "\x01\x01\x80"},
		{num(255), "\x01\x01\xff"},
		{num(256), "\x01\x02\x00\x01"},
		{num(300), "\x01\x02\x2c\x01"},
		{num(1<<16 - 1), "\x01\x02\xff\xff"},
		{num(1 << 16), "\x01\x03\x00\x00\x01"},
		{num(1<<56 - 1), "\x01\x07\xff\xff\xff\xff\xff\xff\xff"},
		{num(1 << 56), "\x01\x08\x00\x00\x00\x00\x00\x00\x00\x01"},
		{num(0x0102030405060708), "\x01\x08\x08\x07\x06\x05\x04\x03\x02\x01"},
		{num(1<<64 - 1), "\x01\x08\xff\xff\xff\xff\xff\xff\xff\xff"},
		{text(""), "\x02\x00"},
		{text("ab"), "\x02\x01\x02ab"},
		{text("\x00"), "\x02\x01\x01\x00"},
		{text("\xff\xfe"), "\x02\x01\x02\xff\xfe"},
		{long(255), "\x02\x01\xff" + strings.Repeat("t", 255)},
		{long(256), "\x02\x02\x00\x01" + strings.Repeat("t", 256)},
		{long(2000), "\x02\x02\xd0\x07" + strings.Repeat("t", 2000)},
		{flt(0), "\x03\x00\x00\x00\x00\x00\x00\x00\x80"},
		{flt(1), "\x03\x00\x00\x00\x00\x00\x00\xf0\xbf"},
		{flt(-1), "\x03\xff\xff\xff\xff\xff\xff\x0f\x40"},
		{flt(math.Inf(1)), "\x03\x00\x00\x00\x00\x00\x00\xf0\xff"},
		{flt(math.Inf(-1)), "\x03\xff\xff\xff\xff\xff\xff\x0f\x00"},
		{flt(canonNaN()), "\x03\x01\x00\x00\x00\x00\x00\xf8\xff"},
		{flt(math.SmallestNonzeroFloat64), "\x03\x01\x00\x00\x00\x00\x00\x00\x80"},
	}
}

func encoded(t *testing.T, l ...Field) []byte {
	t.Helper()
	b, e := Encode(l)
	if e != api.OK {
		t.Fatalf("Encode of %d fields: %d", len(l), e)
	}
	return b
}

// fill are fields whose bytes are n, at least 6013 of them.
func fill(n int) []Field {
	return []Field{long(2000), long(2000), long(2000), long(n - 1 - 3*2004 - 4)}
}

// some lists of fields, the same in every run.
func some(n int) [][]Field {
	g := good()
	out := [][]Field{nil}
	s := uint64(88172645463325252)
	next := func(below int) int {
		s ^= s << 13
		s ^= s >> 7
		s ^= s << 17
		return int(s % uint64(below))
	}
	for range n {
		var l []Field
		for range next(4) {
			l = append(l, g[next(len(g))].f)
		}
		out = append(out, l)
	}
	return out
}

// P2.1

func TestEncodeExample(t *testing.T) {
	b := encoded(t, num(300), text("ab"))
	if want := []byte{0x02, 0x01, 0x02, 0x2c, 0x01, 0x02, 0x01, 0x02, 0x61, 0x62}; !bytes.Equal(b, want) {
		t.Errorf("% x", b)
	}
}

func TestEncodeOfOneField(t *testing.T) {
	for i, g := range good() {
		if b := encoded(t, g.f); string(b) != "\x01"+g.b {
			t.Errorf("number %d: % x", i, b)
		}
	}
}

func TestEncodeOfManyFields(t *testing.T) {
	var l []Field
	want := []byte{byte(len(good()))}
	for _, g := range good() {
		l = append(l, g.f)
		want = append(want, g.b...)
	}
	if b := encoded(t, l...); !bytes.Equal(b, want) {
		t.Errorf("% x", b)
	}
}

func TestEncodeOfNone(t *testing.T) {
	for _, l := range [][]Field{nil, {}} {
		if b := encoded(t, l...); !bytes.Equal(b, []byte{0}) {
			t.Errorf("% x", b)
		}
	}
}

// bad are fields that may not be.
func bad() []Field {
	return []Field{
		{},
		{Kind: -1}, {Kind: 4}, {Kind: 257}, {Kind: 258}, {Kind: 259}, {Kind: 1 << 32}, {Kind: 1<<32 + 1}, {Kind: math.MinInt},
		{Num: 1}, {Text: "x"}, {Real: 1},
		{Kind: Num, Num: 1, Text: "x"}, {Kind: Num, Num: 1, Real: 1}, {Kind: Num, Real: minusZero}, {Kind: Num, Real: math.NaN()},
		{Kind: Text, Text: "x", Num: 1}, {Kind: Text, Text: "x", Real: 1}, {Kind: Text, Real: minusZero}, {Kind: Text, Real: canonNaN()},
		{Kind: Real, Real: 1, Num: 1}, {Kind: Real, Real: 1, Text: "x"},
		flt(minusZero), ofBits(0x7ff8000000000000), ofBits(0x7ff0000000000001), ofBits(0xfff8000000000001), ofBits(0x7fffffffffffffff), ofBits(0xffffffffffffffff),
		long(2001), long(9000),
	}
}

func TestEncodeErrArg(t *testing.T) {
	for i, f := range bad() {
		for _, l := range [][]Field{{f}, {num(1), f}, {f, text("a")}} {
			if b, e := Encode(l); e != api.ErrArg || len(b) != 0 {
				t.Errorf("number %d, %d fields: % x, %d", i, len(l), b, e)
			}
		}
	}
}

func TestEncodeErrArgGoesFirst(t *testing.T) {
	many := slices.Repeat([]Field{num(0)}, 300)
	great := slices.Repeat([]Field{long(2000)}, 10)
	for i, f := range bad() {
		for _, l := range [][]Field{append(slices.Clone(many), f), append(slices.Clone(great), f)} {
			if b, e := Encode(l); e != api.ErrArg || len(b) != 0 {
				t.Errorf("number %d behind %d fields: %d bytes, %d", i, len(l)-1, len(b), e)
			}
		}
	}
}

func TestEncodeErrBig(t *testing.T) {
	if b := encoded(t, slices.Repeat([]Field{num(0)}, 200)...); len(b) != 401 || b[0] != 200 {
		t.Errorf("200 fields: %d bytes", len(b))
	}
	for _, n := range []int{201, 255, 256, 257, 400} {
		if b, e := Encode(slices.Repeat([]Field{num(0)}, n)); e != api.ErrBig || len(b) != 0 {
			t.Errorf("%d fields: %d bytes, %d", n, len(b), e)
		}
	}
	for _, n := range []int{7999, 8000} {
		if b := encoded(t, fill(n)...); len(b) != n {
			t.Errorf("%d bytes: %d", n, len(b))
		}
	}
	for _, l := range [][]Field{fill(8001), fill(8002), slices.Repeat([]Field{long(2000)}, 200), slices.Repeat([]Field{flt(1), long(80)}, 100)} {
		if b, e := Encode(l); e != api.ErrBig || len(b) != 0 {
			t.Errorf("%d fields: %d bytes, %d", len(l), len(b), e)
		}
	}
}

// P2.2

func TestDecodeOfOneField(t *testing.T) {
	for i, g := range good() {
		l, e := Decode([]byte("\x01" + g.b))
		if e != api.OK || len(l) != 1 || !alike(l[0], g.f) {
			t.Errorf("number %d: %d fields, %d", i, len(l), e)
		}
	}
}

func TestDecodeOfNone(t *testing.T) {
	if l, e := Decode([]byte{0}); e != api.OK || len(l) != 0 {
		t.Errorf("%v, %d", l, e)
	}
}

func TestDecodeLimits(t *testing.T) {
	for _, l := range [][]Field{slices.Repeat([]Field{num(0)}, 200), fill(7999), fill(8000)} {
		m, e := Decode(encoded(t, l...))
		if e != api.OK || !slices.EqualFunc(l, m, alike) {
			t.Errorf("%d fields: %d, %d", len(l), len(m), e)
		}
	}
	t2000 := "\x02\x02\xd0\x07" + strings.Repeat("t", 2000)
	for i, s := range []string{
		"\xc9" + strings.Repeat("\x01\x00", 201),
		"\xff" + strings.Repeat("\x01\x00", 255),
		"\x01\x02\x02\xd1\x07" + strings.Repeat("t", 2001),
		"\x04" + strings.Repeat(t2000, 3) + "\x02\x02\xc0\x07" + strings.Repeat("t", 1984), // 8001 bytes
		"\x04" + strings.Repeat(t2000, 4),
	} {
		if l, e := Decode([]byte(s)); e != api.ErrForm || len(l) != 0 {
			t.Errorf("number %d: %d fields, %d", i, len(l), e)
		}
	}
}

func TestDecodeErrForm(t *testing.T) {
	for _, s := range []string{
		"",                             // not even how many there are
		"\x01",                         // a field that is not there
		"\x00\x00",                     // more than no field
		"\x01\x00",                     // of no kind
		"\x01\x00\x00",                 // of no kind
		"\x01\x04\x00", "\x01\xff\x00", // nor of these
		"\x01\x01", "\x01\x02", "\x01\x03", // a kind alone
		"\x01\x01\x01\x00",                             // 0 in a byte
		"\x01\x01\x02\x01\x00",                         // 1 in two
		"\x01\x01\x02\x00\x00",                         // 0 in two
		"\x01\x01\x08\x01\x02\x03\x04\x05\x06\x07\x00", // seven bytes in eight
		"\x01\x01\x09", "\x01\x01\x09\x01\x02\x03\x04\x05\x06\x07\x08\x09",
		"\x01\x01\x09\x01\x00\x00\x00\x00\x00\x00\x00\x00", // 1 in nine
		"\x01\x01\xff" + strings.Repeat("\x01", 255),
		"\x01\x01\x02\x01",                              // a number that ends too early
		"\x01\x01\x01\x01\x00",                          // a byte too many
		"\x01\x02\x01\x00",                              // a text of no bytes, told in a byte
		"\x01\x02\x02\x01\x00a",                         // and of one, told in two
		"\x01\x02\x01\x05ab",                            // a text that ends too early
		"\x01\x02\x01\x01ab",                            // and that goes on
		"\x01\x02\x08\xff\xff\xff\xff\xff\xff\xff\xff",  // a text as long as no int
		"\x01\x02\x08\x00\x00\x00\x00\x00\x00\x00\x80",  // nor as long as this
		"\x01\x02\x08\x01\x00\x00\x00\x01\x00\x00\x01a", // nor one that is short in 32 bits
		"\x01\x02\x04\xff\xff\xff\x7f",                  // long, and not there
		"\x01\x03\x00\x00\x00\x00\x00\x00\x00",          // seven bytes of a float
		"\x01\x03\x00\x00\x00\x00\x00\x00\x00\x80\x00",  // and nine
		"\x01\x03\xff\xff\xff\xff\xff\xff\xff\x7f",      // -0
		"\x01\x03\x00\x00\x00\x00\x00\x00\xf8\xff",      // NaNs that are not Canon's
		"\x01\x03\x01\x00\x00\x00\x00\x00\xf0\xff",
		"\x01\x03\xff\xff\xff\xff\xff\xff\xff\xff",
		"\x01\x03\x00\x00\x00\x00\x00\x00\x00\x00",
		"\x02\x01\x00", "\x02\x01\x00\x04\x00", "\x01\x01\x00\x01\x00", // more, or fewer, than it says
	} {
		if l, e := Decode([]byte(s)); e != api.ErrForm || len(l) != 0 {
			t.Errorf("Decode(% x): %v, %d", s, l, e)
		}
	}
	if l, e := Decode(nil); e != api.ErrForm || len(l) != 0 {
		t.Errorf("Decode(nil): %v, %d", l, e)
	}
}

// P2.3

func TestKinds(t *testing.T) {
	if Num != 1 || Text != 2 || Real != 3 {
		t.Errorf("%d, %d, %d", Num, Text, Real)
	}
}

func TestIs(t *testing.T) {
	l := []Field{num(1), text("a"), flt(1), num(2)}
	for _, c := range []struct {
		l     []Field
		kinds []int
		want  bool
	}{
		{l, []int{Num, Text, Real, Num}, true},
		{l, []int{Num, Text, Real}, false},
		{l, []int{Num, Text, Real, Num, Num}, false},
		{l, []int{Text, Text, Real, Num}, false},
		{l, []int{Num, Real, Text, Num}, false},
		{l, []int{Num, Text, Real, Text}, false},
		{l, nil, false},
		{nil, nil, true},
		{[]Field{}, []int{}, true},
		{nil, []int{Num}, false},
		{[]Field{{}}, []int{0}, true}, // a Kind is asked for, not whether the field may be
		{[]Field{{Kind: -7}}, []int{-7}, true},
		{[]Field{{Kind: 257}}, []int{1}, false},
		{[]Field{{Kind: Num, Text: "x"}}, []int{Num}, true},
	} {
		if got := Is(c.l, c.kinds...); got != c.want {
			t.Errorf("Is(%v, %v): %v", c.l, c.kinds, got)
		}
	}
	if !Is(nil) || !Is(l[:2], Num, Text) || Is(l[:1]) {
		t.Error("with kinds one by one")
	}
}

// P2.4

func TestFieldsComeBack(t *testing.T) {
	for i, l := range some(2000) {
		m, e := Decode(encoded(t, l...))
		if e != api.OK || !slices.EqualFunc(l, m, alike) {
			t.Fatalf("number %d: %v, %d", i, m, e)
		}
	}
}

// justTheirs: bytes that have fields are those fields' bytes.
func justTheirs(t *testing.T, b []byte) bool {
	t.Helper()
	l, e := Decode(b)
	if e == api.ErrForm {
		return false
	}
	if c := encoded(t, l...); e != api.OK || !bytes.Equal(b, c) {
		t.Fatalf("% x: %d, % x", b, e, c)
	}
	return true
}

func TestBytesOfAnyShape(t *testing.T) {
	letters := []byte{0, 1, 2, 3, 4, 9, 0xff}
	var with int
	var walk func(b []byte, more int)
	walk = func(b []byte, more int) {
		if justTheirs(t, b) {
			with++
		}
		if more == 0 {
			return
		}
		for _, c := range letters {
			walk(append(b, c), more-1)
		}
	}
	walk(nil, 6)
	if with == 0 {
		t.Error("none had fields")
	}
}

func TestBytesChangedInOnePlace(t *testing.T) {
	for _, l := range some(300) {
		b := encoded(t, l...)
		if len(b) > 300 {
			continue
		}
		for i := range b {
			for _, c := range []byte{0, 1, 2, 3, 8, 9, 0x7f, 0x80, 0xff, b[i] + 1, b[i] - 1} {
				d := slices.Clone(b)
				d[i] = c
				justTheirs(t, d)
			}
		}
	}
}

// P2.5

func TestNoBeginning(t *testing.T) {
	for _, l := range append(some(200), fill(8000)) {
		b := encoded(t, l...)
		for i := range b {
			if m, e := Decode(b[:i]); e != api.ErrForm || len(m) != 0 {
				t.Fatalf("%d of %d bytes: %v, %d", i, len(b), m, e)
			}
		}
		if m, e := Decode(append(slices.Clone(b), 0)); e != api.ErrForm || len(m) != 0 {
			t.Fatalf("%d bytes and one: %v, %d", len(b), m, e)
		}
	}
}

// R6

func TestNothingIsShared(t *testing.T) {
	l := []Field{num(300), text("ab"), flt(1)}
	b := encoded(t, l...)
	kept := slices.Clone(b)
	m, _ := Decode(b)
	for i := range b {
		b[i] = 0xaa
	}
	if !slices.EqualFunc(l, m, alike) {
		t.Errorf("fields changed as their bytes did: %v", m)
	}
	c := encoded(t, l...)
	l[0] = num(1)
	if !bytes.Equal(c, kept) {
		t.Errorf("bytes changed as their fields did: % x", c)
	}
	if kinds := []int{Num, Text, Real}; !Is(m, kinds...) || !slices.Equal(kinds, []int{Num, Text, Real}) {
		t.Error("Is changed its kinds")
	}
	if n, _ := Decode(c); !slices.EqualFunc(n, m, alike) || !bytes.Equal(c, kept) {
		t.Error("Decode changed its bytes")
	}
}
