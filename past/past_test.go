package past

import (
	"fmt"
	"math"
	"strings"
	"testing"

	"chantry/api"
	"chantry/pack"
)

// edges are the numbers at which a vector's place may go wrong.
var edges = []uint16{0, 1, 2, 255, 256, 999, 1000, 1001, 1002, 32767, 32768, 65534, 65535}

// at is a vector of nothing but one number.
func at(place int, n uint16) api.Vec {
	var v api.Vec
	v[place] = n
	return v
}

// with is v with another number at one place.
func with(v api.Vec, place int, n uint16) api.Vec {
	v[place] = n
	return v
}

// all is a vector of one number at all places.
func all(n uint16) api.Vec {
	var v api.Vec
	for i := range v {
		v[i] = n
	}
	return v
}

// rising is a vector that has another number at each place.
func rising() api.Vec {
	var v api.Vec
	for i := range v {
		v[i] = uint16(60*i + 7)
	}
	return v
}

func text(n int) string { return strings.Repeat("x", n) }

// draw gives numbers that are the same in every run.
func draw() func(below int) int {
	s := uint64(88172645463325252)
	return func(below int) int {
		s ^= s << 13
		s ^= s >> 7
		s ^= s << 17
		return int(s % uint64(below))
	}
}

// drawVec has small numbers, so that vectors are often alike at some places, and now and then an edge.
func drawVec(next func(int) int) api.Vec {
	var v api.Vec
	for i := range v {
		switch next(8) {
		case 0:
			v[i] = edges[next(len(edges))]
		case 1, 2:
			v[i] = uint16(next(3))
		}
	}
	return v
}

// drawBody is a body that may be.
func drawBody(next func(int) int) Body {
	b := Body{Kind: 1 + next(3)}
	for i := range b.Past {
		b.Past[i] = []uint16{0, 0, 1, 255, 256, uint16(next(1001)), 1000}[next(7)]
	}
	l := make([]byte, []int{0, 0, 1, 2, 255, 256, next(401), 400}[next(8)])
	for i := range l {
		l[i] = byte(next(256))
	}
	b.Text = string(l)
	return b
}

func TestKinds(t *testing.T) {
	var n int = Say*100 + Want*10 + Flush
	var small uint8 = Say*100 + Want*10 + Flush // the constants are of no type, as in the document
	if n != 123 || small != 123 {
		t.Errorf("%d, %d", n, small)
	}
}

// P9.1

// below is Below by the chapter's words.
func below(a, b api.Vec) bool {
	for i := range 16 {
		if a[i] > b[i] {
			return false
		}
	}
	return true
}

// join is Join by the chapter's words.
func join(a, b api.Vec) api.Vec {
	var v api.Vec
	for i := range 16 {
		if a[i] > b[i] {
			v[i] = a[i]
		} else {
			v[i] = b[i]
		}
	}
	return v
}

// isBelow fails unless Below answers so, and leaves the vectors as they are.
func isBelow(t *testing.T, want bool, a, b api.Vec) {
	t.Helper()
	c, d := a, b
	if is := Below(a, b); is != want {
		t.Errorf("%d below %d: %t", a, b, is)
	}
	if a != c || b != d {
		t.Errorf("%d, %d were changed to %d, %d", c, d, a, b)
	}
}

// joins fails unless Join answers want, and leaves the vectors as they are.
func joins(t *testing.T, want, a, b api.Vec) {
	t.Helper()
	c, d := a, b
	if v := Join(a, b); v != want {
		t.Errorf("join of %d and %d: %d, not %d", a, b, v, want)
	}
	if a != c || b != d {
		t.Errorf("%d, %d were changed to %d, %d", c, d, a, b)
	}
}

func TestVectorsOfNothingAndEqualOnes(t *testing.T) {
	l := []api.Vec{{}, rising(), {2, 1}, {15: 1}}
	for _, n := range edges {
		l = append(l, all(n))
	}
	for _, v := range l {
		isBelow(t, true, v, v)
		joins(t, v, v, v)
		isBelow(t, true, api.Vec{}, v)
		joins(t, v, api.Vec{}, v)
		joins(t, v, v, api.Vec{})
		isBelow(t, v == api.Vec{}, v, api.Vec{})
	}
}

func TestVectorsThatDifferAtOnePlace(t *testing.T) {
	for place := range 16 {
		for _, v := range []api.Vec{{}, rising(), all(1000)} {
			more := with(v, place, v[place]+1)
			isBelow(t, true, v, more)
			isBelow(t, false, more, v)
			joins(t, more, v, more)
			joins(t, more, more, v)
		}
	}
}

func TestVectorsThatAreEachAboveTheOther(t *testing.T) {
	for i := range 16 {
		for j := range 16 {
			if i == j {
				continue
			}
			for _, v := range []api.Vec{{}, rising(), all(1000)} {
				a, b := with(v, i, v[i]+1), with(v, j, v[j]+1)
				isBelow(t, false, a, b)
				joins(t, with(a, j, v[j]+1), a, b)
			}
		}
	}
}

func TestVectorsOfAllNumbers(t *testing.T) {
	for place := range 16 {
		for _, n := range edges {
			for _, m := range edges {
				isBelow(t, n <= m, at(place, n), at(place, m))
				joins(t, at(place, max(n, m)), at(place, n), at(place, m))
				isBelow(t, n <= m, with(rising(), place, n), with(rising(), place, m))
				joins(t, with(rising(), place, max(n, m)), with(rising(), place, n), with(rising(), place, m))
			}
		}
	}
}

func TestVectorsAreNotHeldAgainstEachOtherAsTexts(t *testing.T) {
	isBelow(t, false, api.Vec{1, 9}, api.Vec{2, 8})
	isBelow(t, false, api.Vec{14: 1, 15: 9}, api.Vec{14: 2, 15: 8})
	isBelow(t, false, api.Vec{0, 0, 0, 0, 1}, api.Vec{0, 0, 0, 1, 0})
	joins(t, api.Vec{2, 9}, api.Vec{1, 9}, api.Vec{2, 8})
	joins(t, api.Vec{2, 5}, api.Vec{1, 5}, api.Vec{2, 3})
}

func TestBelowAndJoinByTheWords(t *testing.T) {
	next := draw()
	for range 20000 {
		a, b := drawVec(next), drawVec(next)
		if next(4) == 0 { // else few are below others
			b = join(a, b)
		}
		isBelow(t, below(a, b), a, b)
		isBelow(t, below(b, a), b, a)
		joins(t, join(a, b), a, b)
	}
}

// P9.2

// may is "a body may be" by the chapter's words.
func may(b Body) bool {
	if b.Kind != 1 && b.Kind != 2 && b.Kind != 3 {
		return false
	}
	for _, n := range b.Past {
		if n > 1000 {
			return false
		}
	}
	return len(b.Text) <= 400
}

// isRight fails unless Right answers so.
func isRight(t *testing.T, want bool, b Body, from uint8, seq int) {
	t.Helper()
	if is := Right(b, from, seq); is != want {
		t.Errorf("%d, %d, %d bytes, as %d of %d: %t", b.Kind, b.Past, len(b.Text), seq, from, is)
	}
}

func TestExample(t *testing.T) {
	b := Body{Say, api.Vec{2, 1}, "x"}
	isRight(t, true, b, 0, 2)
	isRight(t, false, b, 1, 2)
	isRight(t, true, b, 1, 1)
}

func TestRightKind(t *testing.T) {
	for kind, want := range map[int]bool{
		0: false, 1: true, 2: true, 3: true, 4: false, 5: false,
		-1: false, -2: false, -3: false, -256: false, math.MinInt: false, math.MaxInt: false,
		255: false, 256: false, 257: false, 1<<16 + 1: false, 1<<32 + 1: false, math.MinInt + 1: false,
	} {
		isRight(t, want, Body{Kind: kind}, 0, 0)
		isRight(t, want, Body{kind, rising(), "x"}, 3, int(rising()[3]))
	}
}

func TestRightPast(t *testing.T) {
	for place := range 16 {
		for _, n := range edges {
			for from := range uint8(16) {
				b := Body{Want, with(rising(), place, n), "x"}
				isRight(t, n <= 1000, b, from, int(b.Past[from]))
				isRight(t, n <= 1000, Body{Want, at(place, n), ""}, from, int(at(place, n)[from]))
			}
		}
	}
	isRight(t, true, Body{Kind: Say, Past: all(1000)}, 15, 1000)
	isRight(t, false, Body{Kind: Say, Past: all(1001)}, 15, 1001)
}

func TestRightText(t *testing.T) {
	for _, n := range []int{0, 1, 399, 400, 401, 402, 656, 2000, 2001, 8000, 70000} {
		isRight(t, n <= 400, Body{Flush, api.Vec{0, 4}, text(n)}, 1, 4)
	}
	isRight(t, true, Body{Flush, api.Vec{0, 4}, strings.Repeat("\xff", 400)}, 1, 4)
	isRight(t, true, Body{Flush, api.Vec{0, 4}, strings.Repeat("\x00", 400)}, 1, 4)
	isRight(t, true, Body{Flush, api.Vec{0, 4}, strings.Repeat("é", 200)}, 1, 4)
	isRight(t, false, Body{Flush, api.Vec{0, 4}, strings.Repeat("é", 201)}, 1, 4) // bytes are counted, not letters
}

func TestRightFrom(t *testing.T) {
	v := rising()
	for from := range 256 {
		for _, seq := range []int{0, 7, int(v[from%16])} {
			isRight(t, from < 16 && int(v[from%16]) == seq, Body{Say, v, "x"}, uint8(from), seq)
		}
		isRight(t, from < 16, Body{Kind: Say}, uint8(from), 0)
		isRight(t, from < 16, Body{Kind: Say, Past: all(1000)}, uint8(from), 1000)
	}
}

func TestRightSeq(t *testing.T) {
	for from := range uint8(16) {
		for _, n := range []int{0, 1, 2, 500, 999, 1000} {
			b := Body{Say, with(rising(), int(from), uint16(n)), "x"}
			for _, seq := range []int{-1, 0, n - 1, n, n + 1, -n, n + 1<<8, n + 1<<16, n - 1<<16, n + 1<<32, math.MinInt, math.MinInt + n, math.MaxInt, 1000, 1001} {
				isRight(t, seq == n, b, from, seq)
			}
		}
	}
}

func TestRightByTheWords(t *testing.T) {
	next := draw()
	for range 20000 {
		b := Body{next(6) - 1, drawVec(next), text([]int{0, 5, 400, 401}[next(4)])}
		from := uint8(next(17))
		if next(2) == 0 { // else a number or another is nearly always above
			b = drawBody(next)
		}
		seq := next(3)
		if next(2) == 0 && from < 16 {
			seq = int(b.Past[from])
		}
		isRight(t, may(b) && from < 16 && int(b.Past[from]) == seq, b, from, seq)
	}
}

// P9.3

// numberBytes are a Num's bytes by chapter 2's words.
func numberBytes(n int) string {
	switch {
	case n == 0:
		return "\x01\x00"
	case n < 256:
		return string([]byte{1, 1, byte(n)})
	}
	return string([]byte{1, 2, byte(n), byte(n >> 8)})
}

// bodyBytes are a body's bytes by the chapter's words.
func bodyBytes(b Body) string {
	s := "\x12" + numberBytes(b.Kind)
	for _, n := range b.Past {
		s += numberBytes(int(n))
	}
	return s + "\x02" + numberBytes(len(b.Text))[1:] + b.Text
}

// encodes fails unless Encode answers these bytes.
func encodes(t *testing.T, want string, b Body) {
	t.Helper()
	if s, e := Encode(b); s != want || e != api.OK {
		t.Errorf("%d, %d, %d bytes: %x, %d, not %x", b.Kind, b.Past, len(b.Text), s, e, want)
	}
}

// cannotEncode fails unless Encode answers ErrArg, and no bytes beside it.
func cannotEncode(t *testing.T, b Body) {
	t.Helper()
	if s, e := Encode(b); s != "" || e != api.ErrArg {
		t.Errorf("%d, %d, %d bytes: %x, %d", b.Kind, b.Past, len(b.Text), s, e)
	}
}

// decodes fails unless Decode answers this body.
func decodes(t *testing.T, want Body, s string) {
	t.Helper()
	if b, e := Decode(s); b != want || e != api.OK {
		t.Errorf("%x: %+v, %d, not %+v", s, b, e, want)
	}
}

// cannotDecode fails unless Decode answers ErrForm, and nothing of a body beside it.
func cannotDecode(t *testing.T, s, what string) {
	t.Helper()
	if b, e := Decode(s); b != (Body{}) || e != api.ErrForm {
		t.Errorf("%s: %.200x: %+v, %d", what, s, b, e)
	}
}

// parts are the fields of a body.
func parts(b Body) []pack.Field {
	l := []pack.Field{{Kind: pack.Num, Num: uint64(b.Kind)}}
	for _, n := range b.Past {
		l = append(l, pack.Field{Kind: pack.Num, Num: uint64(n)})
	}
	return append(l, pack.Field{Kind: pack.Text, Text: b.Text})
}

// packed is pack's bytes of fields, whether they are a body's or not.
func packed(t *testing.T, l []pack.Field) string {
	t.Helper()
	s, e := pack.Encode(l)
	if e != api.OK {
		t.Fatalf("%+v: %d", l, e)
	}
	return string(s)
}

// one is a body with a number of one byte, of two and of none, and a text.
var one = Body{Want, api.Vec{2, 300, 15: 1000}, "text"}

func TestEncode(t *testing.T) {
	nothing := strings.Repeat("\x01\x00", 13)
	encodes(t, "\x12\x01\x01\x02\x01\x01\x02\x01\x02\x2c\x01"+nothing+"\x01\x02\xe8\x03\x02\x01\x04text", one)
	encodes(t, "\x12\x01\x01\x01"+nothing+"\x01\x00\x01\x00\x01\x00\x02\x00", Body{Kind: Say})
	encodes(t, "\x12\x01\x01\x03"+nothing+"\x01\x00\x01\x00\x01\x00\x02\x02\x90\x01"+text(400), Body{Kind: Flush, Text: text(400)})
}

func TestEncodeAndDecodeOfEachPart(t *testing.T) {
	for _, kind := range []int{Say, Want, Flush} {
		for place := range 16 {
			for _, n := range []uint16{0, 1, 255, 256, 999, 1000} {
				b := Body{kind, with(rising(), place, n), "x"}
				encodes(t, bodyBytes(b), b)
				decodes(t, b, bodyBytes(b))
			}
		}
		for _, s := range []string{"", "x", "\x00", "\xff\xfe", "é", text(255), text(256), text(399), text(400), strings.Repeat("\x00", 400)} {
			b := Body{kind, rising(), s}
			encodes(t, bodyBytes(b), b)
			decodes(t, b, bodyBytes(b))
		}
	}
	b := Body{Flush, all(1000), text(400)}
	encodes(t, bodyBytes(b), b)
	decodes(t, b, bodyBytes(b))
}

func TestEncodeOfWhatMayNotBe(t *testing.T) {
	cannotEncode(t, Body{})
	for _, kind := range []int{0, 4, 5, -1, -2, -3, 256, 257, 1<<16 + 1, 1<<32 + 1, math.MinInt, math.MinInt + 1, math.MaxInt} {
		cannotEncode(t, Body{kind, one.Past, one.Text})
	}
	for place := range 16 {
		for _, n := range []uint16{1001, 1002, 1024, 32768, 65535} {
			cannotEncode(t, Body{Say, at(place, n), ""})
			cannotEncode(t, Body{Say, with(rising(), place, n), "x"})
		}
	}
	for _, n := range []int{401, 402, 512, 2000, 2001, 8000, 70000} {
		cannotEncode(t, Body{Say, one.Past, text(n)})
	}
	cannotEncode(t, Body{4, all(65535), text(9000)})
}

func TestDecodeOfNoFields(t *testing.T) {
	cannotDecode(t, "", "no bytes")
	cannotDecode(t, "\x00", "no field")
	cannotDecode(t, "\x12", "fields that are not there")
	cannotDecode(t, "text", "a text")
	cannotDecode(t, strings.Repeat("\x00", 100), "zeros")
	cannotDecode(t, strings.Repeat("\xff", 100), "ones")
	cannotDecode(t, text(100000), "many bytes")
}

func TestDecodeOfTooFewAndTooManyFields(t *testing.T) {
	l := parts(one)
	for i := range l {
		cannotDecode(t, packed(t, l[:i]), "the first ones alone")
		cannotDecode(t, packed(t, l[i+1:]), "the last ones alone")
		short := append(append([]pack.Field(nil), l[:i]...), l[i+1:]...)
		cannotDecode(t, packed(t, short), "one less")
	}
	for i := range len(l) + 1 {
		for _, f := range []pack.Field{{Kind: pack.Num, Num: 1}, {Kind: pack.Num}, {Kind: pack.Text, Text: "a"}, {Kind: pack.Text}, {Kind: pack.Real}} {
			long := append(append(append([]pack.Field(nil), l[:i]...), f), l[i:]...)
			cannotDecode(t, packed(t, long), "one more")
		}
	}
	cannotDecode(t, packed(t, append(l, l...)), "two bodies")
	for i := 18; i < 200; i += 7 {
		cannotDecode(t, packed(t, ones(i)), "many numbers")
	}
}

// ones is n fields of the number 1.
func ones(n int) []pack.Field {
	l := make([]pack.Field, n)
	for i := range l {
		l[i] = pack.Field{Kind: pack.Num, Num: 1}
	}
	return l
}

func TestDecodeOfAnotherKindOfField(t *testing.T) {
	for i, f := range parts(one) {
		others := []pack.Field{{Kind: pack.Real}, {Kind: pack.Real, Real: 1}, {Kind: pack.Text}, {Kind: pack.Text, Text: "1"}, {Kind: pack.Num}, {Kind: pack.Num, Num: 1}}
		for _, o := range others {
			if o.Kind == f.Kind {
				continue
			}
			l := parts(one)
			l[i] = o
			cannotDecode(t, packed(t, l), "another kind")
		}
	}
	l := parts(one)
	l[0], l[17] = l[17], l[0]
	cannotDecode(t, packed(t, l), "the text first")
}

func TestDecodeOfNumbersTooGreat(t *testing.T) {
	for place := range 16 {
		for n, want := range map[uint64]bool{
			0: true, 1: true, 999: true, 1000: true, 1001: false, 1002: false, 65535: false,
			65536: false, 65537: false, 1<<16 + 1000: false, 1<<17 + 5: false, 1 << 32: false, 1<<32 + 1: false, 1 << 63: false, 1<<63 + 2: false, 1<<64 - 1: false, 1<<64 - 1<<16: false,
		} {
			l := parts(Body{Want, rising(), "x"})
			l[1+place].Num = n
			if s := packed(t, l); want {
				decodes(t, Body{Want, with(rising(), place, uint16(n)), "x"}, s)
			} else {
				cannotDecode(t, s, fmt.Sprintf("%d at %d", n, place))
			}
		}
	}
}

func TestDecodeOfKinds(t *testing.T) {
	for n, want := range map[uint64]bool{
		0: false, 1: true, 2: true, 3: true, 4: false, 5: false, 255: false, 256: false, 257: false, 1000: false, 1001: false,
		1<<16 + 1: false, 1<<32 + 1: false, 1<<63 + 1: false, 1<<63 + 2: false, 1<<64 - 1: false, 1<<64 - 2: false,
	} {
		l := parts(Body{0, rising(), "x"})
		l[0].Num = n
		if s := packed(t, l); want {
			decodes(t, Body{int(n), rising(), "x"}, s)
		} else {
			cannotDecode(t, s, fmt.Sprintf("kind %d", n))
		}
	}
}

func TestDecodeOfTexts(t *testing.T) {
	for _, n := range []int{0, 1, 399, 400, 401, 402, 656, 1999, 2000} {
		b := Body{Say, rising(), text(n)}
		if s := packed(t, parts(b)); n <= 400 {
			decodes(t, b, s)
		} else {
			cannotDecode(t, s, "a long text")
		}
	}
}

func TestDecodeOfAByteLessOrMore(t *testing.T) {
	for _, b := range []Body{one, {Kind: Say}, {Flush, all(1000), text(400)}} {
		s := bodyBytes(b)
		for i := range s {
			cannotDecode(t, s[:i], "a beginning")
			cannotDecode(t, s[i+1:], "an end")
		}
		for c := range 256 {
			cannotDecode(t, s+string([]byte{byte(c)}), "a byte more")
			cannotDecode(t, string([]byte{byte(c)})+s, "a byte ahead")
		}
		cannotDecode(t, s+s, "twice")
	}
}

func TestDecodeOfLongerNumbers(t *testing.T) {
	end := strings.Repeat("\x01\x00", 16) + "\x02\x00"
	decodes(t, Body{Kind: Say}, "\x12\x01\x01\x01"+end)
	cannotDecode(t, "\x12\x01\x02\x01\x00"+end, "a kind with a byte too many")
	cannotDecode(t, "\x12\x01\x01\x01\x01\x01\x00"+end[2:], "nothing with a byte")
	cannotDecode(t, "\x12\x01\x01\x01"+end[:33]+"\x01\x00", "no text with a byte of its length")
}

// P9.4

func TestBodiesComeBack(t *testing.T) {
	next := draw()
	for range 5000 {
		b := drawBody(next)
		encodes(t, bodyBytes(b), b)
		s, _ := Encode(b)
		decodes(t, b, s)
	}
}

// bytesComeBack fails if s are a body's bytes, and that body's are others, or it may not be.
func bytesComeBack(t *testing.T, s string) bool {
	t.Helper()
	b, e := Decode(s)
	if e == api.ErrForm && b == (Body{}) {
		return false
	}
	if back, f := Encode(b); e != api.OK || f != api.OK || back != s || !may(b) || bodyBytes(b) != s {
		t.Errorf("%x: %+v, %d, and back: %x, %d", s, b, e, back, f)
	}
	return true
}

func TestBytesComeBackFromEachChangeOfAByte(t *testing.T) {
	bodies := 0
	for _, b := range []Body{one, {Kind: Say}, {Flush, rising(), "\x01\x02\x03"}} {
		s := bodyBytes(b)
		for i := range s {
			for c := range 256 {
				if bytesComeBack(t, s[:i]+string([]byte{byte(c)})+s[i+1:]) {
					bodies++
				}
			}
		}
	}
	if bodies < 1000 {
		t.Errorf("%d of them were bodies'", bodies)
	}
}

func TestBytesComeBackFromManyChanges(t *testing.T) {
	next := draw()
	bodies := 0
	for range 30000 {
		l := parts(drawBody(next))
		for range next(3) {
			f := &l[next(18)]
			switch next(3) {
			case 0:
				*f = pack.Field{Kind: pack.Num, Num: uint64(edges[next(len(edges))])}
			case 1:
				*f = pack.Field{Kind: pack.Text, Text: text(next(3) * 201)}
			case 2:
				*f = pack.Field{Kind: pack.Num, Num: 1<<next(64) + uint64(next(3))}
			}
		}
		s := []byte(packed(t, l))
		if next(3) == 0 {
			s[next(len(s))] = byte(next(4))
		}
		if bytesComeBack(t, string(s)) {
			bodies++
		}
	}
	if bodies < 5000 || bodies > 29000 {
		t.Errorf("%d of them were bodies'", bodies)
	}
}

func TestUnlikeBodiesHaveUnlikeBytes(t *testing.T) {
	seen := map[string]Body{}
	tell := func(b Body) {
		s, e := Encode(b)
		if e != api.OK {
			t.Errorf("%+v: %d", b, e)
		}
		if c, was := seen[s]; was && c != b {
			t.Errorf("%+v and %+v: %x", b, c, s)
		}
		seen[s] = b
	}
	for kind := Say; kind <= Flush; kind++ {
		for place := range 16 {
			for _, n := range []uint16{0, 1, 2, 255, 256, 257, 512, 744, 999, 1000} {
				tell(Body{kind, at(place, n), ""})
				tell(Body{kind, at(place, n), "\x01\x00"})
				tell(Body{kind, with(rising(), place, n), "\x00"})
			}
		}
		for n := range 401 {
			tell(Body{kind, api.Vec{}, text(n)})
			tell(Body{kind, api.Vec{}, strings.Repeat("\x00", n)})
		}
	}
	next := draw()
	for range 3000 {
		tell(drawBody(next))
	}
}

// P9.5

// joinHolds fails unless what the promise says holds of a and b, and of c that both may be below.
func joinHolds(t *testing.T, a, b, c api.Vec) {
	t.Helper()
	j := Join(a, b)
	if Below(a, b) != (j == b) {
		t.Errorf("%d below %d, and their join %d", a, b, j)
	}
	if !Below(a, j) || !Below(b, j) {
		t.Errorf("%d and %d are not below their join %d", a, b, j)
	}
	if Below(a, c) && Below(b, c) && !Below(j, c) {
		t.Errorf("%d and %d are below %d, their join %d is not", a, b, c, j)
	}
}

func TestJoinOfSmallVectors(t *testing.T) {
	var l []api.Vec
	for _, x := range []uint16{0, 1000, 65535} {
		for _, y := range []uint16{0, 1, 65535} {
			for _, z := range []uint16{0, 1000, 1001} {
				l = append(l, api.Vec{0: x, 7: y, 15: z})
			}
		}
	}
	for _, a := range l {
		for _, b := range l {
			for _, c := range l {
				joinHolds(t, a, b, c)
			}
		}
	}
}

func TestJoinOfManyVectors(t *testing.T) {
	next := draw()
	for range 20000 {
		a, b := drawVec(next), drawVec(next)
		c := drawVec(next)
		if next(2) == 0 { // else few are above both
			c = join(join(a, b), c)
		}
		if next(4) == 0 {
			b = join(a, b)
		}
		joinHolds(t, a, b, c)
	}
}
