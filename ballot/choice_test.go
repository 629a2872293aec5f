package ballot

import (
	"math/bits"
	"slices"
	"testing"

	"chantry/roll"
)

// stays fails unless what is chosen of a box is chosen of the one that came of it.
func stays(t *testing.T, b Box, c Cast) Box {
	t.Helper()
	want, is := Chosen(b)
	next, e := Put(b, c)
	if got, still := Chosen(next); is && (!still || got != want) {
		t.Errorf("%+v, %+v, error %d: %+v chosen, then %+v, %t", b, c, e, want, got, still)
	}
	return next
}

// P12.3

// All members of up to five want one of three things, in every order.
func TestWhatIsChosenStaysInEveryOrder(t *testing.T) {
	for n := 1; n <= 5; n++ {
		some := []roll.Change{add(9), add(10), take(0)}
		chosen := 0
		var walk func(b Box)
		walk = func(b Box) {
			if _, is := Chosen(b); is {
				chosen++
			}
			for who := range uint8(n) {
				for _, c := range some {
					if next := stays(t, b, Cast{who, c}); len(next.Casts) > len(b.Casts) {
						walk(next)
					}
				}
			}
		}
		walk(box(3, every>>(16-n)))
		if chosen == 0 {
			t.Errorf("of %d nothing was ever chosen", n)
		}
	}
}

// The others put whatever they like, and what may not be put too, behind just so many as are enough.
func TestWhatIsChosenStaysWhateverIsPut(t *testing.T) {
	n := draw(3)
	for k := 1; k <= 16; k++ {
		for _, s := range someOf(k) {
			id := uint8(n(16))
			c := roll.Change{Add: s>>id&1 == 0, Id: id}
			if k == 1 && !c.Add {
				c = roll.Change{Add: true, Id: id ^ 1}
			}
			members := ids(s)
			for i := range members {
				j := n(i + 1)
				members[i], members[j] = members[j], members[i]
			}
			b := box(3, s, all(of(members[:echoes[k]]...), c)...)
			chooses(t, c, b)
			for range 1000 {
				other := Cast{uint8(n(18)), roll.Change{Add: n(2) == 0, Id: uint8(n(18))}}
				b = stays(t, b, other)
				chooses(t, c, b)
				if now, is := For(b, c), of(members[:echoes[k]]...); now&is != is {
					t.Errorf("%+v: %04x wanted %+v, now %04x", b, is, c, now)
				}
			}
			if len(b.Casts) != k {
				t.Errorf("%+v: not all put theirs", b)
			}
		}
	}
}

func TestWhatIsChosenStaysInMixedBoxes(t *testing.T) {
	n := draw(7)
	chosen := 0
	for range 3000 {
		b, _ := drawn(n)
		if !mayBeBox(b) {
			continue
		}
		l := slices.Clone(b.Casts)
		b.Casts = nil
		for range 3 * len(l) {
			b = stays(t, b, l[n(len(l))])
		}
		if _, is := Chosen(b); is {
			chosen++
		}
	}
	if chosen < 100 {
		t.Errorf("chosen of %d", chosen)
	}
}

// P12.4

// corrupt is how many of so many members may be, by hand.
var corrupt = [...]int{0, 0, 0, 0, 1, 1, 1, 2, 2, 2, 3, 3, 3, 4, 4, 4, 5}

// alike fails if unlike changes are chosen of two boxes; it answers whether both had one.
func alike(t *testing.T, a, b Box) bool {
	t.Helper()
	x, is := Chosen(a)
	y, too := Chosen(b)
	if is && too && x != y {
		t.Errorf("%+v and %+v:\n%+v and %+v chosen", a, b, x, y)
	}
	return is && too
}

// Members being alike, it is how many want what that tells: in each of two boxes one thing, another one, or nothing. All that there can be of them are gone through, where no more than may be corrupt want unlike things.
func TestTwoBoxesAreAlike(t *testing.T) {
	const ways, one, other = 9, 1, 2
	for n := 1; n <= 16; n++ {
		some := [...]roll.Change{one: take(0), other: add(15)}
		switch n {
		case 1:
			some[one] = add(14)
		case 16:
			some[other] = take(15)
		}
		members := every >> (16 - n)
		pairs := 0
		var walk func(a, b []Cast, who, way, unlike int)
		walk = func(a, b []Cast, who, way, unlike int) {
			if unlike > corrupt[n] {
				return
			}
			if who == n {
				if alike(t, box(3, members, a...), box(3, members, b...)) {
					pairs++
				}
				return
			}
			for ; way < ways; way++ {
				mine, theirs := way/3, way%3
				a, b, unlike := a[:len(a):len(a)], b[:len(b):len(b)], unlike
				if mine != 0 {
					a = append(a, Cast{uint8(who), some[mine]})
				}
				if theirs != 0 {
					b = append(b, Cast{uint8(who), some[theirs]})
				}
				if mine != 0 && theirs != 0 && mine != theirs {
					unlike++
				}
				walk(a, b, who+1, way, unlike)
			}
		}
		walk(nil, nil, 0, 0, 0)
		if pairs == 0 {
			t.Errorf("of %d no two were ever chosen", n)
		}
	}
}

// Two boxes that are filled as corrupt members like it: each honest one wants one thing at most, and stands in both, one or none.
func TestTwoBoxesThatCorruptOnesFill(t *testing.T) {
	n := draw(10)
	pairs := 0
	for range 40000 {
		k := 1 + n(16)
		members := someOf(k)[n(5)]
		r := roll.Roll{View: n(1000), Members: members}
		var some []roll.Change
		for range 1 + n(3) {
			id := uint8(n(16))
			c := roll.Change{Add: members>>id&1 == 0, Id: id}
			if k == 1 {
				c = roll.Change{Add: true, Id: ids(^members)[n(15)]}
			}
			some = append(some, c)
		}
		l := ids(members)
		for i := range l {
			j := n(i + 1)
			l[i], l[j] = l[j], l[i]
		}
		a, b := Box{Roll: r}, Box{Roll: r}
		for i, who := range l {
			mine := some[n(len(some))]
			theirs := mine
			if i < corrupt[k] {
				theirs = some[n(len(some))]
			}
			if n(8) > 0 {
				a, _ = Put(a, Cast{who, mine})
			}
			if n(8) > 0 {
				b, _ = Put(b, Cast{who, theirs})
			}
		}
		if alike(t, a, b) {
			pairs++
		}
	}
	if pairs < 1000 {
		t.Errorf("of %d pairs", pairs)
	}
}

// Where one more than may be corrupt wants unlike things, unlike changes can be chosen: less than the promise asks would not do.
func TestOneMoreThatWantsUnlikeThings(t *testing.T) {
	for n := 1; n <= 16; n++ {
		members := every >> (16 - n)
		one, other := take(0), take(1)
		if n == 1 {
			one, other = add(8), add(9)
		}
		enough := echoes[n]
		first, last := of(ids(members)[:enough]...), of(ids(members)[n-enough:]...)
		a, b := box(3, members, all(first, one)...), box(3, members, all(last, other)...)
		chooses(t, one, a)
		chooses(t, other, b)
		if unlike := bits.OnesCount16(uint16(first & last)); unlike <= corrupt[n] || n%3 == 1 && unlike != corrupt[n]+1 {
			t.Errorf("of %d: %d want unlike things", n, unlike)
		}
	}
}

// Of one box no two changes are chosen: in whichever order its changes are asked, the answer is the same.
func TestOneBoxHasOneAtMost(t *testing.T) {
	n := draw(2)
	for range 3000 {
		b, _ := drawn(n)
		enough := 0
		for id := range uint8(16) {
			for _, c := range []roll.Change{add(id), take(id)} {
				if size := bits.OnesCount16(uint16(For(b, c))); size > 0 && size >= echoes[bits.OnesCount16(uint16(b.Roll.Members))] {
					enough++
				}
			}
		}
		if _, is := Chosen(b); enough > 1 || is != (enough == 1) {
			t.Errorf("%+v: %d changes have enough, %t", b, enough, is)
		}
	}
}
