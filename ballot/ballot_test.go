package ballot

import (
	"math"
	"math/bits"
	"slices"
	"testing"

	"chantry/api"
	"chantry/roll"
)

const every = api.Set(1<<16 - 1)

func add(id uint8) roll.Change  { return roll.Change{Add: true, Id: id} }
func take(id uint8) roll.Change { return roll.Change{Id: id} }

// of is the set of some members.
func of(l ...uint8) api.Set {
	var s api.Set
	for _, id := range l {
		s |= 1 << id
	}
	return s
}

// ids is who is in a set.
func ids(s api.Set) []uint8 {
	var l []uint8
	for id := range uint8(16) {
		if s>>id&1 == 1 {
			l = append(l, id)
		}
	}
	return l
}

// box is one of a view, with casts as they stand.
func box(view int, members api.Set, l ...Cast) Box {
	return Box{roll.Roll{View: view, Members: members}, l}
}

// all are casts of those in a set, who want one thing.
func all(s api.Set, c roll.Change) []Cast {
	var l []Cast
	for _, id := range ids(s) {
		l = append(l, Cast{id, c})
	}
	return l
}

// both are two lists as one, by rising Who.
func both(a, b []Cast) []Cast {
	l := slices.Concat(a, b)
	slices.SortStableFunc(l, func(a, b Cast) int { return int(a.Who) - int(b.Who) })
	return l
}

// copied holds a box against changes to its list.
func copied(b Box) Box {
	b.Casts = append([]Cast(nil), b.Casts...)
	return b
}

func same(a, b Box) bool { return a.Roll == b.Roll && slices.Equal(a.Casts, b.Casts) }

// draw answers numbers below n, the same ones each time.
func draw(seed uint64) func(n int) int {
	return func(n int) int {
		seed ^= seed << 13
		seed ^= seed >> 7
		seed ^= seed << 17
		return int(seed>>8) % n
	}
}

// answers fails unless Put answers the box and the error, and leaves b as it is.
func answers(t *testing.T, want Box, e api.Errno, b Box, c Cast) Box {
	t.Helper()
	before := copied(b)
	next, is := Put(b, c)
	if !same(next, want) || is != e {
		t.Errorf("%+v, %+v:\n%+v, error %d, not\n%+v, error %d", before, c, next, is, want, e)
	}
	if !same(b, before) {
		t.Errorf("%+v was changed to %+v", before, b)
	}
	return next
}

// takes fails unless Put answers a box that has those casts then.
func takes(t *testing.T, want []Cast, b Box, c Cast) Box {
	t.Helper()
	return answers(t, Box{b.Roll, want}, api.OK, b, c)
}

// refuses fails unless Put answers the error, and b as it is.
func refuses(t *testing.T, e api.Errno, b Box, c Cast) {
	t.Helper()
	answers(t, copied(b), e, b, c)
}

// wants fails unless For answers the set.
func wants(t *testing.T, want api.Set, b Box, c roll.Change) {
	t.Helper()
	before := copied(b)
	if s := For(b, c); s != want {
		t.Errorf("%+v, %+v: %04x, not %04x", b, c, s, want)
	}
	if !same(b, before) {
		t.Errorf("%+v was changed to %+v", before, b)
	}
}

// chooses fails unless Chosen answers the change.
func chooses(t *testing.T, want roll.Change, b Box) {
	t.Helper()
	before := copied(b)
	if c, is := Chosen(b); c != want || !is {
		t.Errorf("%+v: %+v, %t, not %+v", b, c, is, want)
	}
	if !same(b, before) {
		t.Errorf("%+v was changed to %+v", before, b)
	}
}

// choosesNone fails unless Chosen answers that there is nothing, and nothing beside it.
func choosesNone(t *testing.T, b Box) {
	t.Helper()
	before := copied(b)
	if c, is := Chosen(b); c != (roll.Change{}) || is {
		t.Errorf("%+v: %+v, %t", b, c, is)
	}
	if !same(b, before) {
		t.Errorf("%+v was changed to %+v", before, b)
	}
}

// P12.1

func TestPutIntoAnEmptyBox(t *testing.T) {
	for _, who := range []uint8{0, 3, 15} {
		b := box(2, of(0, 3, 15))
		for _, c := range []roll.Change{add(1), add(14), take(0), take(3), take(15)} {
			takes(t, []Cast{{who, c}}, b, Cast{who, c})
		}
	}
	takes(t, []Cast{{7, add(8)}}, box(0, of(7)), Cast{7, add(8)})
	takes(t, []Cast{{7, take(8)}}, box(0, every), Cast{7, take(8)})
	takes(t, []Cast{{15, take(15)}}, box(0, every), Cast{15, take(15)})
}

func TestPutAmongOthers(t *testing.T) {
	b := box(5, of(1, 4, 9, 12), Cast{4, add(2)}, Cast{9, take(1)})
	takes(t, []Cast{{1, add(3)}, {4, add(2)}, {9, take(1)}}, b, Cast{1, add(3)})
	takes(t, []Cast{{4, add(2)}, {9, take(1)}, {12, take(1)}}, b, Cast{12, take(1)})
	b = box(5, of(1, 4, 9, 12), Cast{1, add(2)}, Cast{12, add(2)})
	takes(t, []Cast{{1, add(2)}, {4, take(4)}, {12, add(2)}}, b, Cast{4, take(4)})
	takes(t, []Cast{{1, add(2)}, {9, add(2)}, {12, add(2)}}, b, Cast{9, add(2)})
}

// In whatever order all sixteen put theirs, they stand by rising Who.
func TestPutInAnyOrder(t *testing.T) {
	n := draw(9)
	var want []Cast
	for id := range uint8(16) {
		want = append(want, Cast{id, take(id / 3)})
	}
	for range 300 {
		b, waits := box(1, every), slices.Clone(want)
		var put []Cast
		for len(waits) > 0 {
			i := n(len(waits))
			put = both(put, waits[i:i+1])
			b = takes(t, put, b, waits[i])
			waits = slices.Delete(waits, i, i+1)
		}
		if !slices.Equal(b.Casts, want) {
			t.Errorf("%+v", b)
		}
		for _, c := range want {
			refuses(t, api.ErrHave, b, c)
		}
	}
}

func TestPutOfEachMemberAlone(t *testing.T) {
	for id := range uint8(16) {
		b := takes(t, []Cast{{id, add((id + 1) % 16)}}, box(0, of(id)), Cast{id, add((id + 1) % 16)})
		refuses(t, api.ErrHave, b, Cast{id, add((id + 2) % 16)})
		refuses(t, api.ErrMember, b, Cast{(id + 1) % 16, add((id + 1) % 16)})
	}
}

func TestPutOfWhoIsNoMember(t *testing.T) {
	for _, s := range []api.Set{of(0), of(15), of(0, 2, 15), every, every &^ 1, every >> 1} {
		for _, b := range []Box{box(0, s), box(999, s), box(0, s, Cast{ids(s)[0], add(1)})} {
			if !mayBeBox(b) {
				continue
			}
			for who := range 256 {
				if who > 15 || s>>who&1 == 0 {
					refuses(t, api.ErrMember, b, Cast{uint8(who), add(7)})
					refuses(t, api.ErrMember, b, Cast{uint8(who), take(0)})
				}
			}
		}
	}
}

func TestPutOfOneWhoWantsAlready(t *testing.T) {
	b := box(0, of(0, 1, 2, 3), Cast{0, add(5)}, Cast{2, take(3)}, Cast{3, add(5)})
	for _, who := range []uint8{0, 2, 3} {
		for _, c := range []roll.Change{add(5), take(3), add(6), take(who)} {
			refuses(t, api.ErrHave, b, Cast{who, c})
		}
	}
	takes(t, []Cast{{0, add(5)}, {1, add(5)}, {2, take(3)}, {3, add(5)}}, b, Cast{1, add(5)})
}

// A change that can't be applied, by each error that roll.Apply has of it.
func TestPutOfAChangeThatCannotBeApplied(t *testing.T) {
	some := []Box{box(3, of(0, 1, 4, 15)), box(3, of(0, 1, 4, 15), Cast{0, add(7)}, Cast{15, take(4)})}
	for _, b := range some {
		for id := range 256 {
			if id > 15 {
				refuses(t, api.ErrArg, b, Cast{1, add(uint8(id))})
				refuses(t, api.ErrArg, b, Cast{4, take(uint8(id))})
			} else if b.Roll.Members>>id&1 == 1 {
				refuses(t, api.ErrHave, b, Cast{1, add(uint8(id))})
			} else {
				refuses(t, api.ErrNone, b, Cast{4, take(uint8(id))})
			}
		}
	}
	refuses(t, api.ErrMember, box(0, of(4)), Cast{4, take(4)})
	refuses(t, api.ErrMember, box(999, of(15)), Cast{15, take(15)})
	refuses(t, api.ErrHave, box(0, every), Cast{4, add(4)})
}

func TestPutInTheLastView(t *testing.T) {
	takes(t, []Cast{{1, add(2)}}, box(999, of(1)), Cast{1, add(2)})
	takes(t, []Cast{{1, take(1)}}, box(999, of(1, 2)), Cast{1, take(1)})
	for _, b := range []Box{box(1000, of(1, 2)), {roll.Roll{View: 1000, Members: of(1, 2)}, []Cast{}}} {
		refuses(t, api.ErrView, b, Cast{1, add(3)})
		refuses(t, api.ErrView, b, Cast{2, take(1)})
		refuses(t, api.ErrHave, b, Cast{2, add(1)})
		refuses(t, api.ErrNone, b, Cast{2, take(3)})
		refuses(t, api.ErrArg, b, Cast{2, take(16)})
		refuses(t, api.ErrMember, b, Cast{3, add(3)})
	}
	refuses(t, api.ErrView, box(1000, of(1)), Cast{1, take(1)}) // which roll.Apply names ahead of ErrMember
}

// wrongBoxes are boxes that may not be, by one thing each; some have enough Casts of one change.
func wrongBoxes() []Box {
	var l []Box
	for _, v := range []int{math.MinInt, -1000, -1, 1001, 1002, 1 << 16, 1 << 32, math.MaxInt} {
		l = append(l, box(v, of(0, 1)), box(v, of(0, 1), all(of(0, 1), add(2))...))
	}
	l = append(l, Box{}, box(5, 0), box(1000, 0), box(5, 0, Cast{0, add(1)}), box(5, 0, Cast{0, take(0)}))
	s := of(0, 1, 2, 5)
	p, m := add(9), take(2)
	for _, casts := range [][]Cast{
		{{1, p}, {0, p}}, {{0, p}, {2, p}, {1, p}}, {{5, p}, {0, p}, {1, p}, {2, p}}, {{0, p}, {1, p}, {5, p}, {2, p}}, // out of order
		{{0, p}, {0, p}}, {{0, p}, {0, m}}, {{0, p}, {1, p}, {1, p}}, {{0, p}, {1, p}, {2, p}, {5, p}, {5, p}}, {{0, p}, {1, p}, {2, p}, {0, p}}, // twice
		{{3, p}}, {{0, p}, {1, p}, {2, p}, {3, p}}, {{0, p}, {1, p}, {2, p}, {15, p}}, {{0, p}, {1, p}, {2, p}, {16, p}}, // of none
		{{0, p}, {1, p}, {2, p}, {17, p}}, {{0, p}, {1, p}, {2, p}, {32, p}}, {{0, p}, {1, p}, {2, p}, {255, p}},
		{{0, add(2)}}, {{0, p}, {1, p}, {2, p}, {5, add(5)}}, {{0, add(0)}, {1, p}, {2, p}, {5, p}}, // of changes that can't be
		{{0, take(3)}}, {{0, p}, {1, take(9)}, {2, p}, {5, p}}, {{0, m}, {1, m}, {2, m}, {5, take(4)}},
		{{0, add(16)}}, {{0, take(16)}}, {{0, p}, {1, p}, {2, p}, {5, add(25)}}, {{0, m}, {1, m}, {2, m}, {5, take(255)}},
	} {
		l = append(l, box(5, s, casts...))
	}
	l = append(l, box(5, of(4), Cast{4, take(4)}), box(999, of(4), Cast{4, take(4)}))
	l = append(l, box(1000, of(0, 1), Cast{0, add(2)}), box(1000, of(0, 1), all(of(0, 1), take(1))...))
	return append(l, box(3, every, append(all(every, take(4)), Cast{15, take(4)})...))
}

func TestPutIntoABoxThatMayNotBe(t *testing.T) {
	for _, b := range wrongBoxes() {
		for _, who := range []uint8{0, 1, 2, 4, 5, 15, 16, 255} {
			for _, c := range []roll.Change{add(9), add(0), take(2), take(9), add(16), take(255), {}} {
				refuses(t, api.ErrArg, b, Cast{who, c})
			}
		}
	}
}

func TestWhichErrorComesFirst(t *testing.T) {
	wrong := box(5, of(0, 1, 3), Cast{1, add(2)}, Cast{0, add(2)})
	refuses(t, api.ErrArg, wrong, Cast{4, add(2)})  // ahead of ErrMember
	refuses(t, api.ErrArg, wrong, Cast{1, add(2)})  // of ErrHave
	refuses(t, api.ErrArg, wrong, Cast{3, take(2)}) // of roll.Apply's
	b := box(5, of(0, 1, 3), Cast{1, add(2)})
	refuses(t, api.ErrMember, b, Cast{4, add(0)})
	refuses(t, api.ErrMember, b, Cast{4, take(4)})
	refuses(t, api.ErrMember, b, Cast{16, add(16)})
	refuses(t, api.ErrMember, b, Cast{17, add(2)}) // 17 is not taken for 1, who wants already
	refuses(t, api.ErrMember, box(1000, of(0, 1)), Cast{2, take(0)})
	refuses(t, api.ErrHave, b, Cast{1, take(2)}) // ahead of ErrNone
	refuses(t, api.ErrHave, b, Cast{1, take(16)})
	refuses(t, api.ErrHave, b, Cast{1, add(255)})
	refuses(t, api.ErrHave, box(5, of(1), Cast{1, add(2)}), Cast{1, take(1)}) // ahead of ErrMember
	refuses(t, api.ErrArg, b, Cast{0, add(16)})
	refuses(t, api.ErrHave, b, Cast{0, add(3)})
	refuses(t, api.ErrNone, b, Cast{0, take(2)})
}

// P12.2

func TestFor(t *testing.T) {
	b := box(7, of(0, 3, 4, 8, 15), Cast{0, add(2)}, Cast{3, take(3)}, Cast{8, add(2)}, Cast{15, add(1)})
	wants(t, of(0, 8), b, add(2))
	wants(t, of(3), b, take(3))
	wants(t, of(15), b, add(1))
	for _, c := range []roll.Change{take(2), add(3), take(1), take(0), add(0), take(4), add(9), {}, add(18), take(19), add(17), add(255)} {
		wants(t, 0, b, c)
	}
}

func TestForOfNobodyAndOfAll(t *testing.T) {
	for id := range uint8(16) {
		wants(t, 0, box(0, every), add(id))
		wants(t, 0, box(0, every), take(id))
		wants(t, every, box(0, every, all(every, take(id))...), take(id))
		wants(t, 0, box(0, every, all(every, take(id))...), add(id))
		wants(t, 0, box(0, every, all(every, take(id))...), take(id^1))
		s := every &^ of(id)
		wants(t, s, box(999, s, all(s, add(id))...), add(id))
		wants(t, 0, box(999, s, all(s, add(id))...), take(id))
		wants(t, of(id), box(0, of(id), all(of(id), add(id^1))...), add(id^1))
	}
}

// Each set of the sixteen wants one thing, and all others another one.
func TestForOfEachSet(t *testing.T) {
	for s := range 1 << 16 {
		s := api.Set(s)
		b := box(0, every, both(all(s, take(3)), all(^s, take(4)))...)
		if For(b, take(3)) != s || For(b, take(4)) != ^s || For(b, take(5)) != 0 {
			t.Errorf("%04x: %04x, %04x", s, For(b, take(3)), For(b, take(4)))
		}
	}
}

func TestOfABoxThatMayNotBe(t *testing.T) {
	for _, b := range wrongBoxes() {
		choosesNone(t, b)
		for id := range 256 {
			wants(t, 0, b, add(uint8(id)))
			wants(t, 0, b, take(uint8(id)))
		}
	}
}

func TestOfABoxOfTheLastView(t *testing.T) {
	choosesNone(t, box(1000, of(1)))
	choosesNone(t, box(1000, every))
	wants(t, 0, box(1000, of(1)), add(2))
	chooses(t, add(2), box(999, of(1), Cast{1, add(2)}))
	wants(t, of(1), box(999, of(1), Cast{1, add(2)}), add(2))
}

// echoes is how many are enough of so many members, by hand.
var echoes = [...]int{0, 1, 2, 2, 3, 4, 4, 5, 6, 6, 7, 8, 8, 9, 10, 10, 11}

// someOf are sets of n members: the first ones, the last ones, and some with gaps.
func someOf(n int) []api.Set {
	low := every >> (16 - n)
	l := []api.Set{low, low << (16 - n)}
	for _, turn := range []int{3, 5, 7} {
		var s api.Set
		for i := range n {
			s |= 1 << (i * turn % 16)
		}
		l = append(l, s)
	}
	return l
}

func TestChosenByHowMany(t *testing.T) {
	for n := 1; n <= 16; n++ {
		for _, s := range someOf(n) {
			for id := range uint8(16) {
				c := roll.Change{Add: s>>id&1 == 0, Id: id}
				if n == 1 && !c.Add {
					continue // nobody would be left
				}
				for k := range n + 1 {
					for _, who := range [][]uint8{ids(s)[:k], ids(s)[n-k:]} {
						b := box(4, s, all(of(who...), c)...)
						if k >= echoes[n] {
							chooses(t, c, b)
						} else {
							choosesNone(t, b)
						}
					}
				}
			}
		}
	}
}

// Each set of members wants one thing, and the others nothing, another one, or each of them another one.
func TestChosenByWho(t *testing.T) {
	for n := 2; n <= 16; n++ {
		s := every >> (16 - n)
		for m := 1; m < 1<<n; m++ {
			some := api.Set(m)
			others := s &^ some
			apart := all(others, take(0))
			for i := range apart {
				apart[i].Change.Id = uint8(1 + i)
			}
			for i, rest := range [][]Cast{nil, all(others, take(1)), apart} {
				b := box(0, s, both(all(some, take(0)), rest)...)
				switch {
				case bits.OnesCount16(uint16(some)) >= echoes[n]:
					chooses(t, take(0), b)
				case i == 1 && bits.OnesCount16(uint16(others)) >= echoes[n]:
					chooses(t, take(1), b)
				default:
					choosesNone(t, b)
				}
			}
			if n > 12 {
				m += 8 // not all of so many
			}
		}
	}
}

// Casts that nobody's Add, or Id, tells apart are not counted together.
func TestChosenTellsChangesApart(t *testing.T) {
	choosesNone(t, box(0, of(0, 1, 2, 3), Cast{0, add(4)}, Cast{1, add(5)}, Cast{2, add(6)}, Cast{3, add(7)}))
	choosesNone(t, box(0, of(0, 1, 2, 3), Cast{0, add(4)}, Cast{1, add(4)}, Cast{2, take(3)}, Cast{3, take(3)}))
	choosesNone(t, box(0, of(0, 1, 2, 3), Cast{0, take(2)}, Cast{1, take(3)}, Cast{2, take(3)}, Cast{3, take(2)}))
	chooses(t, take(3), box(0, of(0, 1, 2, 3), Cast{0, take(2)}, Cast{1, take(3)}, Cast{2, take(3)}, Cast{3, take(3)}))
	chooses(t, take(0), box(0, of(0, 1, 2, 3), Cast{0, take(0)}, Cast{1, take(0)}, Cast{2, add(9)}, Cast{3, take(0)}))
}

// All of it, by the chapter's words

// mayBeBox is when a box may be.
func mayBeBox(b Box) bool {
	if b.Roll.View < 0 || b.Roll.View > 1000 || b.Roll.Members == 0 {
		return false
	}
	last := -1
	for _, c := range b.Casts {
		if int(c.Who) <= last || !slices.Contains(ids(b.Roll.Members), c.Who) || appliedByTheWords(b.Roll, c.Change) != api.OK {
			return false
		}
		last = int(c.Who)
	}
	return true
}

// appliedByTheWords is the error that a change has in a view.
func appliedByTheWords(r roll.Roll, c roll.Change) api.Errno {
	members := ids(r.Members)
	has := slices.Contains(members, c.Id)
	switch {
	case r.View < 0 || r.View > 1000 || r.Members == 0 || c.Id > 15:
		return api.ErrArg
	case c.Add && has:
		return api.ErrHave
	case !c.Add && !has:
		return api.ErrNone
	case r.View == 1000:
		return api.ErrView
	case !c.Add && len(members) == 1:
		return api.ErrMember
	}
	return api.OK
}

func putByTheWords(b Box, c Cast) (Box, api.Errno) {
	b = copied(b)
	if !mayBeBox(b) {
		return b, api.ErrArg
	}
	if !slices.Contains(ids(b.Roll.Members), c.Who) {
		return b, api.ErrMember
	}
	for _, x := range b.Casts {
		if x.Who == c.Who {
			return b, api.ErrHave
		}
	}
	if e := appliedByTheWords(b.Roll, c.Change); e != api.OK {
		return b, e
	}
	return Box{b.Roll, both(b.Casts, []Cast{c})}, api.OK
}

func forByTheWords(b Box, c roll.Change) api.Set {
	if !mayBeBox(b) {
		return 0
	}
	var s api.Set
	for _, x := range b.Casts {
		if x.Change.Add == c.Add && x.Change.Id == c.Id {
			s |= 1 << x.Who
		}
	}
	return s
}

// chosenByTheWords asks each change that there is, not only those that somebody wants.
func chosenByTheWords(b Box) (roll.Change, bool) {
	for id := range uint8(16) {
		for _, c := range []roll.Change{add(id), take(id)} {
			if bits.OnesCount16(uint16(forByTheWords(b, c))) >= max(1, echoes[bits.OnesCount16(uint16(b.Roll.Members))]) {
				return c, true
			}
		}
	}
	return roll.Change{}, false
}

// byTheWords fails unless all calls answer as the chapter's words say.
func byTheWords(t *testing.T, b Box, c Cast) {
	t.Helper()
	want, e := putByTheWords(b, c)
	next := answers(t, want, e, b, c)
	wants(t, forByTheWords(b, c.Change), b, c.Change)
	wants(t, forByTheWords(want, c.Change), next, c.Change)
	for _, x := range []Box{b, next} {
		if change, is := chosenByTheWords(x); is {
			chooses(t, change, x)
		} else {
			choosesNone(t, x)
		}
	}
}

// All boxes of up to two casts (in view 0, of members 0 and 1, or 0 to 2, up to three) of three who want one of five things; those that may not be are among them.
func TestByTheWordsOfSmallBoxes(t *testing.T) {
	var casts []Cast
	for who := range uint8(3) {
		for _, c := range []roll.Change{add(0), add(2), take(0), take(1), take(16)} {
			casts = append(casts, Cast{who, c})
		}
	}
	put := []Cast{{0, add(2)}, {1, add(2)}, {2, take(0)}, {1, take(1)}, {0, add(16)}, {16, add(2)}}
	for _, v := range []int{-1, 0, 999, 1000, 1001} {
		for s := range api.Set(8) {
			var walk func(l []Cast)
			walk = func(l []Cast) {
				for _, c := range put {
					byTheWords(t, box(v, s, l...), c)
				}
				if len(l) == 2 && (v != 0 || s != 3 && s != 7) || len(l) == 3 {
					return
				}
				for _, c := range casts {
					walk(append(slices.Clone(l), c))
				}
			}
			walk(nil)
		}
	}
}

// drawn is a box, most often one that may be, and a cast.
func drawn(n func(int) int) (Box, Cast) {
	r := roll.Roll{View: n(1000), Members: api.Set(1 + n(1<<16-1))}
	if n(10) == 0 {
		r.View = 998 + n(4)
	}
	if n(3) == 0 {
		r.Members = of(uint8(n(16)), uint8(n(16)), uint8(n(16)))
	}
	change := func() roll.Change {
		c := roll.Change{Id: uint8(n(16))}
		c.Add = r.Members>>c.Id&1 == 0
		if n(30) == 0 {
			c = roll.Change{Add: n(2) == 0, Id: uint8(n(18))}
		}
		return c
	}
	b, one, two := Box{Roll: r}, change(), change()
	for _, id := range ids(r.Members) {
		if k := n(8); k < 5 && (r.View != 1000 || n(9) == 0) {
			b.Casts = append(b.Casts, Cast{id, []roll.Change{one, one, one, two, change()}[k]})
		}
	}
	if len(b.Casts) > 0 && n(10) == 0 {
		i, j := n(len(b.Casts)), n(len(b.Casts))
		b.Casts[i], b.Casts[j] = b.Casts[j], b.Casts[i]
	}
	if n(40) == 0 {
		b.Casts = append(b.Casts, Cast{uint8(n(18)), one})
	}
	return b, Cast{uint8(n(17)), []roll.Change{one, two, change(), {Id: uint8(n(17))}}[n(4)]}
}

func TestByTheWordsOfManyBoxes(t *testing.T) {
	n := draw(12)
	errors := map[api.Errno]int{}
	chosen := 0
	for range 60000 {
		b, c := drawn(n)
		byTheWords(t, b, c)
		_, e := Put(b, c)
		errors[e]++
		if _, is := Chosen(b); is {
			chosen++
		}
	}
	for _, e := range []api.Errno{api.OK, api.ErrArg, api.ErrMember, api.ErrHave, api.ErrNone, api.ErrView} {
		if errors[e] < 50 {
			t.Errorf("error %d came %d times", e, errors[e])
		}
	}
	if chosen < 1000 {
		t.Errorf("chosen of %d", chosen)
	}
}

// The rules

func TestTheSameEachTime(t *testing.T) {
	n := draw(4)
	for range 2000 {
		b, c := drawn(n)
		next, e := Put(b, c)
		change, is := Chosen(b)
		s := For(b, c.Change)
		other, x := drawn(n)
		Put(other, x)
		Chosen(other)
		For(other, x.Change)
		if again, f := Put(b, c); !same(again, next) || f != e {
			t.Errorf("%+v, %+v: %+v, then %+v", b, c, next, again)
		}
		if again, f := Chosen(b); again != change || f != is {
			t.Errorf("%+v: %+v, then %+v", b, change, again)
		}
		if again := For(b, c.Change); again != s {
			t.Errorf("%+v, %+v: %04x, then %04x", b, c, s, again)
		}
	}
}

// roomy is a box whose list has room behind it, and the whole of that room.
func roomy(b Box) (Box, []Cast) {
	n := len(b.Casts)
	room := make([]Cast, n+20)
	copy(room, b.Casts)
	for i := n; i < len(room); i++ {
		room[i] = Cast{99, add(99)}
	}
	b.Casts = room[:n]
	return b, room
}

// scribble writes over a list, and over what is behind it.
func scribble(l []Cast) {
	l = l[:cap(l)]
	for i := range l {
		l[i] = Cast{77, take(77)}
	}
}

func TestNothingIsWrittenInto(t *testing.T) {
	n := draw(6)
	for range 3000 {
		b, c := drawn(n)
		b, room := roomy(b)
		before := slices.Clone(room)
		Put(b, c)
		Chosen(b)
		For(b, c.Change)
		if !slices.Equal(room, before) {
			t.Errorf("%+v, %+v: written into: %+v, before %+v", b, c, room, before)
		}
	}
}

func TestAnswersAreNewMemory(t *testing.T) {
	n := draw(8)
	errors := map[api.Errno]int{}
	for range 3000 {
		b, c := drawn(n)
		b, room := roomy(b)
		before := slices.Clone(room)
		next, e := Put(b, c)
		errors[e]++
		scribble(next.Casts)
		if !slices.Equal(room, before) {
			t.Errorf("%+v, %+v, error %d: what is answered is what was handed in", b, c, e)
		}
		next, _ = Put(b, c)
		kept := copied(next)
		scribble(room)
		if !same(next, kept) {
			t.Errorf("%+v, error %d: what was handed in is kept", c, e)
		}
	}
	for _, e := range []api.Errno{api.OK, api.ErrArg, api.ErrMember, api.ErrHave} {
		if errors[e] < 20 {
			t.Errorf("error %d came %d times", e, errors[e])
		}
	}
}

func TestTwoFromOneBox(t *testing.T) {
	b := Box{roll.Roll{Members: of(0, 1, 2, 3, 4)}, make([]Cast, 0, 8)}
	b = takes(t, []Cast{{2, add(9)}}, b, Cast{2, add(9)})
	x := takes(t, []Cast{{2, add(9)}, {3, add(9)}}, b, Cast{3, add(9)})
	y := takes(t, []Cast{{2, add(9)}, {4, take(0)}}, b, Cast{4, take(0)})
	z := takes(t, []Cast{{0, add(9)}, {2, add(9)}, {3, add(9)}}, x, Cast{0, add(9)})
	w := takes(t, []Cast{{2, add(9)}, {3, add(9)}, {4, add(9)}}, x, Cast{4, add(9)})
	for i, p := range []struct {
		b    Box
		want []Cast
	}{
		{b, []Cast{{2, add(9)}}}, {x, []Cast{{2, add(9)}, {3, add(9)}}}, {y, []Cast{{2, add(9)}, {4, take(0)}}},
		{z, []Cast{{0, add(9)}, {2, add(9)}, {3, add(9)}}}, {w, []Cast{{2, add(9)}, {3, add(9)}, {4, add(9)}}},
	} {
		if !slices.Equal(p.b.Casts, p.want) {
			t.Errorf("number %d: %+v", i, p.b)
		}
	}
}

func TestEmptyListsAreAsNone(t *testing.T) {
	for _, r := range []roll.Roll{{}, {View: 0, Members: of(3)}, {View: 1000, Members: every}, {View: 1001, Members: every}} {
		for _, l := range [][]Cast{nil, {}, make([]Cast, 0, 4)} {
			for _, c := range []Cast{{3, add(4)}, {3, take(3)}, {16, add(4)}, {}} {
				byTheWords(t, Box{r, l}, c)
			}
		}
	}
}

// Lists that are far too long are seen to be so, and answered as they are.
func TestLongListsEnd(t *testing.T) {
	long := make([]Cast, 1<<20)
	for i := range long {
		long[i] = Cast{uint8(i >> 16), take(3)} // they rise, but for those that are alike
	}
	falling := slices.Clone(long)
	slices.Reverse(falling)
	for _, l := range [][]Cast{long, falling} {
		b := box(0, every, l...)
		choosesNone(t, b)
		wants(t, 0, b, take(3))
		next, e := Put(b, Cast{1, take(3)})
		if !same(next, b) || e != api.ErrArg {
			t.Errorf("%d casts, error %d", len(next.Casts), e)
		}
	}
}

// The chapter's examples

func TestExample(t *testing.T) {
	b := box(0, of(0, 1, 2, 3))
	for _, who := range []uint8{1, 3, 0} {
		choosesNone(t, b)
		b, _ = Put(b, Cast{who, add(5)})
	}
	chooses(t, add(5), b)
	wants(t, of(0, 1, 3), b, add(5))
}
