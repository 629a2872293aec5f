package roll

import (
	"math"
	"slices"
	"strconv"
	"strings"
	"testing"

	"chantry/api"
)

const every = api.Set(1<<16 - 1)

// views are numbers at both ends of those that may be, and between, beyond and far beyond them.
var views = []int{math.MinInt, math.MinInt32, -1000, -2, -1, 0, 1, 2, 500, 998, 999, 1000, 1001, 1002, 65536, 1 << 32, math.MaxInt}

// ids are numbers of members, and some that are none's: the ones that a shift, or a smaller number, would take for one's.
var ids = []uint8{0, 1, 2, 3, 4, 5, 6, 7, 8, 9, 10, 11, 12, 13, 14, 15, 16, 17, 18, 31, 32, 64, 127, 128, 240, 254, 255}

func add(id uint8) Change  { return Change{Add: true, Id: id} }
func take(id uint8) Change { return Change{Id: id} }

// of is the set of some members.
func of(l ...uint8) api.Set {
	var s api.Set
	for _, id := range l {
		s |= 1 << id
	}
	return s
}

// sets calls f with every set that may be.
func sets(f func(s api.Set)) {
	for s := range 1 << 16 {
		f(api.Set(s))
	}
}

// changes calls f with a change of each id, in both ways.
func changes(f func(c Change)) {
	for _, id := range ids {
		f(add(id))
		f(take(id))
	}
}

// draw answers numbers below n, the same ones each time.
func draw(seed uint64) func(n int) int {
	return func(n int) int {
		seed ^= seed << 13
		seed ^= seed >> 7
		seed ^= seed << 17
		return int(seed>>8) % n
	}
}

// mayBe is what P11.1 says.
func mayBe(r Roll) bool {
	return r.View >= 0 && r.View < 1001 && r.Members > 0
}

// applied is what P11.2 says, one error behind the other, by lists of members.
func applied(r Roll, c Change) (Roll, api.Errno) {
	var members []uint8
	for id := range uint8(16) {
		if r.Members>>id&1 == 1 {
			members = append(members, id)
		}
	}
	if !mayBe(r) || c.Id > 15 {
		return Roll{}, api.ErrArg
	}
	place := slices.Index(members, c.Id)
	if c.Add && place >= 0 {
		return Roll{}, api.ErrHave
	}
	if !c.Add && place < 0 {
		return Roll{}, api.ErrNone
	}
	if r.View == 1000 {
		return Roll{}, api.ErrView
	}
	if !c.Add && len(members) == 1 {
		return Roll{}, api.ErrMember
	}
	if c.Add {
		members = append(members, c.Id)
	} else {
		members = slices.Delete(members, place, place+1)
	}
	return Roll{r.View + 1, of(members...)}, api.OK
}

// leads fails unless Apply answers the view.
func leads(t *testing.T, want Roll, r Roll, c Change) {
	t.Helper()
	before := r
	if next, e := Apply(r, c); next != want || e != api.OK {
		t.Errorf("%+v, %+v: %+v, error %d, not %+v", r, c, next, e, want)
	}
	if r != before {
		t.Errorf("%+v was changed to %+v", before, r)
	}
}

// refuses fails unless Apply answers the error, and no view beside it.
func refuses(t *testing.T, want api.Errno, r Roll, c Change) {
	t.Helper()
	before := r
	if next, e := Apply(r, c); next != (Roll{}) || e != want {
		t.Errorf("%+v, %+v: %+v, error %d, not %d", r, c, next, e, want)
	}
	if r != before {
		t.Errorf("%+v was changed to %+v", before, r)
	}
}

// P11.1

func TestRightOfEachView(t *testing.T) {
	for _, s := range []api.Set{1, 2, 1 << 15, 0x8001, 11, every} {
		for _, v := range views {
			if is := Right(Roll{v, s}); is != (v >= 0 && v <= 1000) {
				t.Errorf("view %d of %04x: %t", v, s, is)
			}
		}
		for v := range 1001 {
			if !Right(Roll{v, s}) {
				t.Errorf("view %d of %04x may not be", v, s)
			}
		}
	}
}

func TestRightAtTheEnds(t *testing.T) {
	for _, x := range []struct {
		r    Roll
		want bool
	}{
		{Roll{-1, 1}, false}, {Roll{0, 1}, true}, {Roll{999, 1}, true}, {Roll{1000, 1}, true}, {Roll{1001, 1}, false},
		{Roll{0, 0}, false}, {Roll{1000, 0}, false}, {Roll{500, 0}, false}, {Roll{-1, 0}, false}, {Roll{1001, 0}, false},
		{Roll{0, every}, true}, {Roll{1000, every}, true}, {Roll{-1, every}, false}, {Roll{1001, every}, false},
		{Roll{0, 1 << 15}, true}, {Roll{}, false},
	} {
		if is := Right(x.r); is != x.want {
			t.Errorf("%+v: %t", x.r, is)
		}
	}
}

func TestRightOfEverySet(t *testing.T) {
	sets(func(s api.Set) {
		for _, v := range views {
			if is := Right(Roll{v, s}); is != mayBe(Roll{v, s}) {
				t.Errorf("view %d of %04x: %t", v, s, is)
			}
		}
	})
}

// P11.2

func TestApplyAddsAndTakes(t *testing.T) {
	r := Roll{3, of(0, 1, 3)}
	leads(t, Roll{4, of(0, 1, 2, 3)}, r, add(2))
	leads(t, Roll{4, of(0, 1, 3, 15)}, r, add(15))
	leads(t, Roll{4, of(0, 1)}, r, take(3))
	leads(t, Roll{4, of(1, 3)}, r, take(0))
	leads(t, Roll{1, of(0, 7)}, Roll{0, of(7)}, add(0))
	leads(t, Roll{1, of(0)}, Roll{0, of(0, 15)}, take(15))
	leads(t, Roll{1, every}, Roll{0, every &^ 1}, add(0))
	leads(t, Roll{1, every &^ 1}, Roll{0, every}, take(0))
	leads(t, Roll{1, every >> 1}, Roll{0, every}, take(15))
}

func TestApplyToTheLastView(t *testing.T) {
	leads(t, Roll{999, of(1, 2)}, Roll{998, of(1)}, add(2))
	leads(t, Roll{1000, of(1, 2)}, Roll{999, of(1)}, add(2))
	leads(t, Roll{1000, of(1)}, Roll{999, of(1, 2)}, take(2))
	refuses(t, api.ErrView, Roll{1000, of(1)}, add(2))
	refuses(t, api.ErrView, Roll{1000, of(1, 2)}, take(2))
	refuses(t, api.ErrView, Roll{1000, every}, take(15))
}

func TestApplyToWhatMayNotBe(t *testing.T) {
	for _, r := range []Roll{{}, {0, 0}, {1000, 0}, {-1, of(1)}, {1001, of(1)}, {-1, 0}, {1001, 0}, {math.MaxInt, every}, {math.MinInt, every}} {
		changes(func(c Change) { refuses(t, api.ErrArg, r, c) })
	}
}

func TestApplyWithAnIdThatMayNotBe(t *testing.T) {
	for _, r := range []Roll{{0, of(0)}, {0, of(15)}, {5, every}, {999, of(0, 15)}, {1000, of(0)}} {
		for id := range 256 {
			if id > 15 {
				refuses(t, api.ErrArg, r, add(uint8(id)))
				refuses(t, api.ErrArg, r, take(uint8(id)))
			}
		}
	}
}

func TestApplyWithWhomItHasAndHasNot(t *testing.T) {
	r := Roll{7, of(0, 4, 15)}
	for id := range uint8(16) {
		if id == 0 || id == 4 || id == 15 {
			refuses(t, api.ErrHave, r, add(id))
		} else {
			refuses(t, api.ErrNone, r, take(id))
		}
		refuses(t, api.ErrHave, Roll{7, every}, add(id))
	}
}

func TestApplyTakesTheOnlyOne(t *testing.T) {
	for id := range uint8(16) {
		refuses(t, api.ErrMember, Roll{0, of(id)}, take(id))
		refuses(t, api.ErrMember, Roll{999, of(id)}, take(id))
	}
}

func TestWhichErrorApplyNamesFirst(t *testing.T) {
	for _, r := range []Roll{{1001, of(1)}, {-1, of(1)}} { // of a view that may not be
		refuses(t, api.ErrArg, r, add(1))
		refuses(t, api.ErrArg, r, take(2))
		refuses(t, api.ErrArg, r, take(1))
	}
	refuses(t, api.ErrArg, Roll{1000, 0}, take(1))
	refuses(t, api.ErrArg, Roll{1000, 0}, add(1))

	last := Roll{1000, of(1)} // the last view, of one member
	refuses(t, api.ErrArg, last, add(16))
	refuses(t, api.ErrArg, last, take(16))
	refuses(t, api.ErrHave, last, add(1))
	refuses(t, api.ErrNone, last, take(2))
	refuses(t, api.ErrView, last, take(1))
	refuses(t, api.ErrHave, Roll{1000, every}, add(15))
	refuses(t, api.ErrView, Roll{1000, of(15)}, take(15))
	refuses(t, api.ErrNone, Roll{0, of(1)}, take(2))
}

func TestApplyOfEverySet(t *testing.T) {
	sets(func(s api.Set) {
		for _, v := range []int{0, 999, 1000} {
			changes(func(c Change) {
				r := Roll{v, s}
				want, e := applied(r, c)
				if next, is := Apply(r, c); next != want || is != e {
					t.Errorf("%+v, %+v: %+v, error %d, not %+v, error %d", r, c, next, is, want, e)
				}
			})
		}
	})
}

func TestApplyOfEachView(t *testing.T) {
	for _, s := range []api.Set{0, of(0), of(15), of(2, 3), every &^ (1 << 9), every} {
		for _, v := range views {
			changes(func(c Change) {
				r := Roll{v, s}
				want, e := applied(r, c)
				if next, is := Apply(r, c); next != want || is != e {
					t.Errorf("%+v, %+v: %+v, error %d, not %+v, error %d", r, c, next, is, want, e)
				}
			})
		}
	}
}

// P11.3

// texts are those of all changes that may be, by hand.
var texts = []string{
	"+0", "+1", "+2", "+3", "+4", "+5", "+6", "+7", "+8", "+9", "+10", "+11", "+12", "+13", "+14", "+15",
	"-0", "-1", "-2", "-3", "-4", "-5", "-6", "-7", "-8", "-9", "-10", "-11", "-12", "-13", "-14", "-15",
}

func TestTextOfEachChangeAndBack(t *testing.T) {
	for i, s := range texts {
		c := Change{i < 16, uint8(i % 16)}
		if is := Text(c); is != s {
			t.Errorf("%+v: %q, not %q", c, is, s)
		}
		if back, e := Parse(s); back != c || e != api.OK {
			t.Errorf("%q: %+v, error %d, not %+v", s, back, e, c)
		}
	}
}

// The text is made of any number: that an id may not be is told by Parse, and by Apply.
func TestTextOfIdsThatMayNotBe(t *testing.T) {
	for id := 16; id <= 255; id++ {
		number := strconv.Itoa(id)
		if s := Text(add(uint8(id))); s != "+"+number {
			t.Errorf("+ %d: %q", id, s)
		}
		if s := Text(take(uint8(id))); s != "-"+number {
			t.Errorf("- %d: %q", id, s)
		}
		refusesText(t, "+"+number)
		refusesText(t, "-"+number)
	}
}

// refusesText fails unless Parse answers ErrForm, and no change beside it.
func refusesText(t *testing.T, s string) {
	t.Helper()
	if c, e := Parse(s); c != (Change{}) || e != api.ErrForm {
		t.Errorf("%.40q: %+v, error %d", s, c, e)
	}
}

func TestParseOfWhatIsNoText(t *testing.T) {
	for _, s := range []string{
		"", "+", "-", " ", "0", "3", "7", "15", "16", "+16", "-16", "+17", "+20", "+99", "+100", "+255", "+256", "+257", "-256", "-261", "+65536", "+65539", "+4294967296", "+18446744073709551616", "+18446744073709551619",
		"+03", "-03", "+00", "-00", "+01", "+015", "-015", "+0015", "+000000000000000000000000003",
		"++", "--", "+-", "-+", "++1", "--1", "+-1", "-+1", "+ 1", " +1", "+1 ", "1+", "1-", "+1+", "+1-", "+1+1", "+3,", "+3\n", "\n+3", "\t+3", "+3\t", "+3\x00", "\x00+3", "+\x003",
		"*3", "=3", ",3", ".3", "/3", "~3", "\u22123", "\uff0b3", "\u20133", "\xab3", "\xff3",
		"+a", "+f", "-F", "+A", "+x", "+0x3", "+0b1", "+0o7", "+1_0", "+_1", "+1_", "+1.0", "+1.", "+.1", "+1e0", "+1E1", "+:", "+;", "+/", "+?", "+1/", "+1:", "+Inf", "-Inf", "NaN",
		"+\u0663", "+\uff13", "+3\u0301", "+\xb3", "+1\xb5", "+1\x80", "+\xff", "+1\xff",
		"add 3", "Add 3", "{true 3}", "+3 ", "3 +", "\"+3\"",
	} {
		refusesText(t, s)
	}
}

func TestParseOfLongTexts(t *testing.T) {
	for _, n := range []int{2, 3, 8, 19, 20, 100, 400, 1 << 20} {
		for _, digit := range []string{"0", "1", "5", "9"} {
			refusesText(t, "+"+strings.Repeat(digit, n)+"0")
			refusesText(t, "-"+strings.Repeat(digit, n)+"3")
		}
		refusesText(t, strings.Repeat("+", n))
		refusesText(t, strings.Repeat("-", n)+"1")
		refusesText(t, "+3"+strings.Repeat(" ", n))
		refusesText(t, strings.Repeat(" ", n)+"+3")
		refusesText(t, "+3"+strings.Repeat("\x00", n))
	}
}

// Every text of one or two bytes, and of three behind a sign, is held against the list.
func TestParseOfEveryShortText(t *testing.T) {
	known := 0
	check := func(b ...byte) {
		s := string(b)
		i := slices.Index(texts, s)
		if i < 0 {
			refusesText(t, s)
			return
		}
		known++
		if c, e := Parse(s); c != (Change{i < 16, uint8(i % 16)}) || e != api.OK {
			t.Errorf("%q: %+v, error %d", s, c, e)
		}
	}
	for a := range 256 {
		check(byte(a))
		for b := range 256 {
			check(byte(a), byte(b))
			if a != '+' && a != '-' {
				continue // of three bytes only those behind a sign
			}
			for c := range 256 {
				check(byte(a), byte(b), byte(c))
			}
		}
	}
	if known != len(texts) {
		t.Errorf("%d of %d texts came", known, len(texts))
	}
}

// Each text with one byte more, less or another is a text that is known, or none at all.
func TestParseOfTextsNearby(t *testing.T) {
	check := func(s string) {
		if !slices.Contains(texts, s) {
			refusesText(t, s)
		}
	}
	for _, s := range texts {
		for i := range len(s) + 1 {
			for b := range 256 {
				check(s[:i] + string([]byte{byte(b)}) + s[i:])
				if i < len(s) {
					check(s[:i] + string([]byte{byte(b)}) + s[i+1:])
				}
			}
			if i < len(s) {
				check(s[:i] + s[i+1:])
			}
		}
	}
}

// P11.4

// goes fails unless Path answers so, and leaves the list as it is.
func goes(t *testing.T, want []Roll, r Roll, l []Change) {
	t.Helper()
	before := slices.Clone(l)
	path := Path(r, l)
	if !slices.Equal(path, want) {
		t.Errorf("%+v, %+v:\n%+v, not\n%+v", r, l, path, want)
	}
	if !slices.Equal(l, before) {
		t.Errorf("%+v was changed to %+v", before, l)
	}
}

func TestPathOfNoChange(t *testing.T) {
	for _, r := range []Roll{{0, of(0)}, {1, of(15)}, {999, every}, {1000, of(3)}, {1000, every}} {
		goes(t, []Roll{r}, r, nil)
		goes(t, []Roll{r}, r, []Change{})
	}
}

func TestPathOfChangesThatCanAllBeMade(t *testing.T) {
	goes(t, []Roll{{3, of(0, 1, 3)}, {4, of(1, 3)}}, Roll{3, of(0, 1, 3)}, []Change{take(0)})
	goes(t, []Roll{{0, of(0)}, {1, of(0, 5)}, {2, of(5)}, {3, of(5, 15)}, {4, of(0, 5, 15)}, {5, of(0, 15)}}, Roll{0, of(0)},
		[]Change{add(5), take(0), add(15), add(0), take(5)})
	goes(t, []Roll{{990, of(9)}, {991, of(9, 1)}, {992, of(9)}, {993, of(9, 1)}}, Roll{990, of(9)}, []Change{add(1), take(1), add(1)})
}

func TestPathEndsAtWhatCannotBe(t *testing.T) {
	r := Roll{3, of(0, 1)}
	first, second := Roll{4, of(0, 1, 2)}, Roll{5, of(1, 2)}
	for _, c := range []Change{add(1), add(2), take(0), take(5), add(16), take(16), add(255), take(255)} {
		goes(t, []Roll{r, first, second}, r, []Change{add(2), take(0), c, add(7)})
		goes(t, []Roll{r, first, second}, r, []Change{add(2), take(0), c})
		goes(t, []Roll{r, first, second}, r, []Change{add(2), take(0), c, c, c})
	}
	goes(t, []Roll{r}, r, []Change{add(0), add(2)})
	goes(t, []Roll{r}, r, []Change{take(2), add(2)})
	goes(t, []Roll{r, {4, of(1)}}, r, []Change{take(0), take(1), add(2)})
}

func TestPathFromWhatMayNotBe(t *testing.T) {
	for _, r := range []Roll{{}, {5, 0}, {-1, of(1)}, {1001, of(1)}, {-1, 0}, {1001, 0}, {math.MinInt, every}, {math.MaxInt, every}} {
		for _, l := range [][]Change{nil, {}, {add(2)}, {add(2), take(2)}, {take(1)}, {add(16)}} {
			goes(t, nil, r, l)
		}
	}
}

func TestPathUpToTheLastView(t *testing.T) {
	var l []Change
	for range 700 {
		l = append(l, add(2), take(2))
	}
	for _, from := range []int{0, 1, 500, 998, 999, 1000} {
		var want []Roll
		for v := from; v <= 1000; v++ {
			s := of(1)
			if (v-from)%2 == 1 {
				s = of(1, 2)
			}
			want = append(want, Roll{v, s})
		}
		goes(t, want, Roll{from, of(1)}, l)
		goes(t, want, Roll{from, of(1)}, l[:1000-from])
		goes(t, want, Roll{from, of(1)}, l[:1000-from+1])
		if from < 1000 {
			goes(t, want[:len(want)-1], Roll{from, of(1)}, l[:1000-from-1])
		}
	}
}

// walked is what P11.4 says, by applied.
func walked(r Roll, l []Change) []Roll {
	if !mayBe(r) {
		return nil
	}
	if len(l) == 0 {
		return []Roll{r}
	}
	next, e := applied(r, l[0])
	if e != api.OK {
		return []Roll{r}
	}
	return append([]Roll{r}, walked(next, l[1:])...)
}

func TestPathAsThePromiseSays(t *testing.T) {
	n := draw(11)
	lengths := map[int]int{}
	for range 20000 {
		r := Roll{n(1003) - 1, api.Set(n(1 << 16))}
		if n(3) == 0 {
			r = Roll{998 + n(3), of(uint8(n(16)), uint8(n(16)))}
		}
		var l []Change
		for range n(12) {
			c := Change{n(2) == 0, uint8(n(16))}
			if n(3) > 0 {
				c.Add = r.Members>>c.Id&1 == 0 // it can be made more often
			}
			if n(40) == 0 {
				c.Id = uint8(n(256))
			}
			l = append(l, c)
		}
		want := walked(r, l)
		lengths[len(want)]++
		goes(t, want, r, l)
	}
	for k := range 8 {
		if lengths[k] == 0 {
			t.Errorf("no path of %d views came", k)
		}
	}
}

// P11.5

func TestThereAndBack(t *testing.T) {
	sets(func(s api.Set) {
		for _, v := range []int{0, 997, 998} {
			for id := range uint8(16) {
				for _, isAdd := range []bool{true, false} {
					c := Change{isAdd, id}
					there, e := Apply(Roll{v, s}, c)
					if e != api.OK {
						continue
					}
					if there.Members == s || there.View != v+1 {
						t.Errorf("view %d of %04x, %+v: %+v", v, s, c, there)
					}
					if back, e := Apply(there, Change{!isAdd, id}); back != (Roll{v + 2, s}) || e != api.OK {
						t.Errorf("view %d of %04x, %+v and back: %+v, error %d", v, s, c, back, e)
					}
				}
			}
		}
	})
}

func TestTheWholeWayThereAndBack(t *testing.T) {
	n := draw(5)
	for range 2000 {
		r := Roll{n(900), api.Set(1 + n(1<<16-1))}
		var l []Change
		for range n(30) {
			c := Change{n(2) == 0, uint8(n(16))}
			if len(Path(r, append(slices.Clone(l), c))) == len(l)+2 {
				l = append(l, c)
			}
		}
		way := slices.Clone(l)
		for i := len(l) - 1; i >= 0; i-- {
			way = append(way, Change{!l[i].Add, l[i].Id})
		}
		path := Path(r, way)
		if len(path) != len(way)+1 {
			t.Errorf("%+v, %+v: %d views", r, way, len(path))
			continue
		}
		for i, x := range path {
			if other := path[len(path)-1-i]; x.Members != other.Members {
				t.Errorf("%+v, %+v: %04x and %04x", r, way, x.Members, other.Members)
			}
		}
	}
}

func TestViewsOfAPathDifferByOne(t *testing.T) {
	n := draw(7)
	most := 0
	for range 3000 {
		r := Roll{n(1001), api.Set(1 + n(1<<16-1))}
		var l []Change
		last := r
		for range n(40) {
			id := uint8(n(16))
			l = append(l, Change{last.Members>>id&1 == 0, id})
			path := Path(r, l)
			last = path[len(path)-1]
		}
		path := Path(r, l)
		most = max(most, len(path))
		for i, x := range path {
			if x.View != r.View+i || !Right(x) {
				t.Errorf("%+v, %+v: view %d is %+v", r, l, i, x)
			}
			if i == 0 {
				continue
			}
			if differ := x.Members ^ path[i-1].Members; differ != of(l[i-1].Id) {
				t.Errorf("%+v, %+v: members of view %d differ by %04x", r, l, i, differ)
			}
		}
	}
	if most < 30 {
		t.Errorf("the longest path was of %d views", most)
	}
}

// All lists of up to four changes of three members.
func TestEachPathOfThreeMembers(t *testing.T) {
	var some []Change
	for id := range uint8(3) {
		some = append(some, add(id), take(id))
	}
	var walk func(r Roll, l []Change)
	walk = func(r Roll, l []Change) {
		goes(t, walked(r, l), r, l)
		if len(l) == 4 {
			return
		}
		for _, c := range some {
			walk(r, append(slices.Clone(l), c))
		}
	}
	for s := range api.Set(8) {
		walk(Roll{2, s}, nil)
		walk(Roll{998, s}, nil)
	}
}

// The rules

func TestTheSameEachTime(t *testing.T) {
	n := draw(3)
	for range 2000 {
		r, c := Roll{n(1003) - 1, api.Set(n(1 << 16))}, Change{n(2) == 0, uint8(n(20))}
		next, e := Apply(r, c)
		path := Path(r, []Change{c, c})
		Apply(Roll{n(1000), every}, take(uint8(n(16))))
		Path(Roll{n(1000), every}, []Change{take(1), take(2)})
		Parse("+3")
		if again, is := Apply(r, c); again != next || is != e {
			t.Errorf("%+v, %+v: %+v, then %+v", r, c, next, again)
		}
		if again := Path(r, []Change{c, c}); !slices.Equal(again, path) {
			t.Errorf("%+v, %+v: %+v, then %+v", r, c, path, again)
		}
	}
}

func TestPathsShareNoMemory(t *testing.T) {
	roomy := make([]Change, 3, 10)
	copy(roomy, []Change{add(2), take(0), add(5)})
	room := roomy[:10]
	room[3] = add(9) // behind the list: neither asked nor written over
	r := Roll{3, of(0, 1)}
	want := []Roll{r, {4, of(0, 1, 2)}, {5, of(1, 2)}, {6, of(1, 2, 5)}}
	one, two := Path(r, roomy), Path(r, roomy)
	for i := range one {
		one[i] = Roll{99, 99}
	}
	one = append(one[:1:cap(one)], Roll{77, 77})
	if !slices.Equal(two, want) {
		t.Errorf("written over: %+v", two)
	}
	if !slices.Equal(roomy, []Change{add(2), take(0), add(5)}) || room[3] != add(9) || room[4] != (Change{}) {
		t.Errorf("the list: %+v", room)
	}
	for i := range roomy {
		roomy[i] = take(9)
	}
	if !slices.Equal(two, want) {
		t.Errorf("the list written over: %+v", two)
	}
}

// The chapter's examples

func TestExamples(t *testing.T) {
	leads(t, Roll{1, of(0, 1, 3)}, Roll{0, of(0, 1)}, add(3))
	if c, e := Parse("-15"); c != (Change{false, 15}) || e != api.OK {
		t.Errorf("-15: %+v, error %d", c, e)
	}
	refusesText(t, "+03")
}
