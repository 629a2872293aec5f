package hold

import (
	"slices"
	"strconv"
	"testing"

	"chantry/api"
	"chantry/past"
)

// teller puts items into one hold, and holds what is told against the promise of its order.
type teller struct {
	t    *testing.T
	h    Hold
	told []Item  // all of it
	seen api.Vec // how many of each member's that is
	most int     // waited at once
}

func (w *teller) put(x Item) api.Errno {
	w.t.Helper()
	a := put(w.h, x)
	for _, y := range a.told {
		if y.From > 15 || y.Seq != int(w.seen[y.From]) {
			w.t.Fatalf("%+v is told behind %d", y, w.seen)
		}
		for i, n := range y.Body.Past {
			if n > w.seen[i] {
				w.t.Fatalf("%+v is told ahead of what it means: behind %d", y, w.seen)
			}
		}
		w.seen[y.From]++
	}
	w.told = append(w.told, a.told...)
	if a.next.Told != w.seen {
		w.t.Fatalf("%d are told, %d by Told", w.seen, a.next.Told)
	}
	w.h = a.next
	w.most = max(w.most, len(w.h.Wait))
	return a.e
}

// hasToldAll fails unless all of l are told, and nothing else, and nothing waits.
func (w *teller) hasToldAll(l []Item) {
	w.t.Helper()
	times := map[Item]int{}
	for _, x := range w.told {
		times[x]++
	}
	for _, x := range l {
		if times[x] != 1 {
			w.t.Fatalf("%+v is told %d times", x, times[x])
		}
	}
	if len(w.told) != len(l) || len(w.h.Wait) != 0 {
		w.t.Fatalf("%d of %d are told, %d wait", len(w.told), len(l), len(w.h.Wait))
	}
}

// history is a closed list: n items, each of one who knew some of those ahead of it.
func history(next func(int) int, members, n int) []Item {
	var l []Item
	var made api.Vec
	for range n {
		from := uint8(next(members))
		var knew api.Vec
		for i, m := range made {
			knew[i] = uint16(next(int(m) + 1))
			if next(3) > 0 {
				knew[i] = m
			}
		}
		x := item(from, with(knew, from, made[from]))
		x.Body.Kind = 1 + next(3)
		x.Body.Text = strconv.Itoa(next(5))
		l = append(l, x)
		made[from]++
	}
	return l
}

// P10.3

// Whatever comes, of corrupt members too: items of one name that are unlike, that mean one another, or what never comes.
func TestTheOrderWhateverComes(t *testing.T) {
	next := draw()
	told, waited := 0, 0
	for range 500 {
		w := &teller{t: t}
		for range 120 {
			x := anyItem(next, w.h.Told)
			if len(w.h.Wait) > 0 && next(5) == 0 {
				x = saying(w.h.Wait[next(len(w.h.Wait))], "again")
			}
			if len(w.told) > 0 && next(9) == 0 {
				x = saying(w.told[next(len(w.told))], "again")
			}
			before := w.h
			if e := w.put(x); e != api.OK && !sameHold(before, w.h) {
				t.Fatalf("beside %d: %+v, then %+v", e, before, w.h)
			}
			if !Right(w.h) {
				t.Fatalf("may not be: %+v", w.h)
			}
		}
		told += len(w.told)
		waited = max(waited, w.most)
	}
	if told < 1500 || waited < 30 {
		t.Errorf("too few: %d told, at most %d waited", told, waited)
	}
}

func TestTheOrderFromAnyStart(t *testing.T) {
	next := draw()
	for range 500 {
		h := anyHold(next)
		if !Right(h) {
			continue
		}
		w := &teller{t: t, h: h, seen: h.Told}
		for range 40 {
			w.put(anyItem(next, w.h.Told))
		}
	}
}

func TestAllOfAMembersBodies(t *testing.T) {
	w := &teller{t: t}
	var l []Item
	for n := range uint16(1000) {
		l = append(l, item(7, api.Vec{7: n}))
	}
	for i := 0; i < 1000; i += 50 {
		for _, x := range backward(l[i : i+50]) {
			if e := w.put(x); e != api.OK {
				t.Fatalf("%+v: %d", x, e)
			}
		}
	}
	w.hasToldAll(l)
	if w.h.Told != (api.Vec{7: 1000}) || !Right(w.h) {
		t.Errorf("%+v", w.h)
	}
	for _, x := range l {
		refuses(t, api.ErrOld, w.h, x)
	}
}

// P10.4

// putAll puts items, of which none is to be refused.
func putAll(t *testing.T, l []Item) *teller {
	t.Helper()
	w := &teller{t: t}
	for _, x := range l {
		if e := w.put(x); e != api.OK {
			t.Fatalf("%+v: %d", x, e)
		}
	}
	return w
}

// orders calls f with l in each of its orders.
func orders(l []Item, done int, f func([]Item)) {
	if done == len(l) {
		f(l)
	}
	for i := done; i < len(l); i++ {
		l[done], l[i] = l[i], l[done]
		orders(l, done+1, f)
		l[done], l[i] = l[i], l[done]
	}
}

func TestEachOrderOfFewItems(t *testing.T) {
	next := draw()
	for n := range 7 {
		for members := 1; members < 6; members++ {
			l := history(next, members, n)
			orders(slices.Clone(l), 0, func(mixed []Item) { putAll(t, mixed).hasToldAll(l) })
		}
	}
}

// Of a closed list of 65 one at least never waits, so that there is room for all the others.
func TestManyOrdersOfManyItems(t *testing.T) {
	next := draw()
	waited := 0
	for i := range 500 {
		l := history(next, 1+next(16), 65-i%3)
		mixed := slices.Clone(l)
		mix(next, mixed)
		for _, order := range [][]Item{mixed, backward(l), l} {
			w := putAll(t, order)
			w.hasToldAll(l)
			waited = max(waited, w.most)
		}
	}
	if waited != 64 {
		t.Errorf("at most %d waited", waited)
	}
}

func TestLongListsThatComeNearlyInOrder(t *testing.T) {
	next := draw()
	for range 10 {
		l := history(next, 1+next(16), 1000)
		mixed := slices.Clone(l)
		for i := 0; i < len(mixed); i += 50 {
			mix(next, mixed[i:i+50])
		}
		putAll(t, mixed).hasToldAll(l)
	}
}

// What was refused is left as if it had never come: it may come again, and all are told in the end.
func TestWhatFoundNoRoomMayComeAgain(t *testing.T) {
	next := draw()
	refused := 0
	for range 10 {
		l := history(next, 1+next(16), 200)
		mixed := slices.Clone(l)
		w := &teller{t: t}
		for rounds := 0; len(mixed) > 0; rounds++ {
			if rounds > 300 {
				t.Fatalf("%d are never told", len(mixed))
			}
			mix(next, mixed)
			var left []Item
			for _, x := range mixed {
				if e := w.put(x); e == api.ErrFull {
					left = append(left, x)
				} else if e != api.OK {
					t.Fatalf("%+v: %d", x, e)
				}
			}
			mixed = left
			refused += len(left)
		}
		w.hasToldAll(l)
	}
	if refused < 500 {
		t.Errorf("too few: %d", refused)
	}
}

// What comes twice, or may not be, changes nothing.
func TestMuchBetweenTheItemsOfAList(t *testing.T) {
	next := draw()
	for range 200 {
		l := history(next, 1+next(8), 40)
		mixed := slices.Clone(l)
		mix(next, mixed)
		w := &teller{t: t}
		for i, x := range mixed {
			if e := w.put(x); e != api.OK {
				t.Fatalf("%+v: %d", x, e)
			}
			if e := w.put(saying(mixed[next(i+1)], "again")); e != api.ErrOld {
				t.Fatalf("once more: %d", e)
			}
			if e := w.put(mayNotBe()[next(len(mayNotBe()))]); e != api.ErrArg {
				t.Fatalf("one that may not be: %d", e)
			}
		}
		w.hasToldAll(l)
	}
}

// A list that is not closed: what means one that is not there is never told, nor what means that; all else is.
func TestAListThatIsNotClosed(t *testing.T) {
	next := draw()
	left := 0
	for range 300 {
		l := history(next, 1+next(8), 50)
		gone := next(len(l))
		var there api.Vec // what can be told without it
		var told, wait []Item
		for i, x := range l {
			if i != gone && past.Below(x.Body.Past, there) && x.Seq == int(there[x.From]) {
				there[x.From]++
				told = append(told, x)
			} else if i != gone {
				wait = append(wait, x)
			}
		}
		mixed := slices.Delete(slices.Clone(l), gone, gone+1)
		mix(next, mixed)
		w := putAll(t, mixed)
		if w.seen != there || len(w.told) != len(told) || len(w.h.Wait) != len(wait) {
			t.Fatalf("%d, not %d", w.seen, there)
		}
		var came []Item // those that wait stand as they came
		for _, x := range mixed {
			if slices.Contains(wait, x) {
				came = append(came, x)
			}
		}
		if !slices.Equal(w.h.Wait, came) {
			t.Fatalf("%+v, not %+v", w.h.Wait, came)
		}
		left += len(wait)
		w.put(l[gone])
		w.hasToldAll(l)
	}
	if left < 1000 {
		t.Errorf("too few: %d", left)
	}
}

// Two that mean each other can't be told, though each is there: no order has both behind what they mean.
func TestTwoThatMeanEachOther(t *testing.T) {
	x, y := item(0, api.Vec{0, 1}), item(1, api.Vec{1, 0})
	for _, l := range [][]Item{{x, y}, {y, x}} {
		if w := putAll(t, l); len(w.told) != 0 || !sameHold(w.h, Hold{Wait: l}) {
			t.Errorf("%+v", w.h)
		}
	}
}
