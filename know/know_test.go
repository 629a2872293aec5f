package know

import (
	"slices"
	"strings"
	"testing"

	"chantry/api"
	"chantry/term"
)

const (
	n1 = api.Term("n\x00\x01")
	n2 = api.Term("n\x00\x02")
	n3 = api.Term("n\x00\x03")
	n4 = api.Term("n\x00\x04")
	c0 = api.Term("c\x00")
	ca = api.Term("c\x01a")
)

type terms = []api.Term

func hash(a api.Term) api.Term      { return "h" + a }
func derive(a, b api.Term) api.Term { return "d" + a + b }
func mac(a, b api.Term) api.Term    { return "m" + a + b }
func seal(a, b api.Term) api.Term   { return "s" + a + b }
func pair(a, b api.Term) api.Term   { return "p" + a + b }

func many(n int, s string) api.Term { return api.Term(strings.Repeat(s, n)) }

// long has n bytes, and is less deep than a term may be.
func long(t *testing.T, n int) api.Term {
	t.Helper()
	x := n1
	for n-len(x) >= 43 {
		x = pair("c\x28"+many(40, "a"), x)
	}
	if rest := n - len(x); rest >= 3 {
		x = pair("c"+api.Term([]byte{byte(rest - 3)})+many(rest-3, "b"), x)
	}
	if rest := n - len(x); rest > 0 {
		x = many(rest, "h") + x
	}
	if len(x) != n || term.Check(x) != api.OK && n <= api.MaxTerm {
		t.Fatalf("%d bytes, not %d, or no term", len(x), n)
	}
	return x
}

func deep(n int) api.Term { return many(n-1, "h") + n1 }

func nonces(n int) terms {
	var l terms
	for i := range n {
		l = append(l, term.NewNonce(uint16(i)))
	}
	return l
}

// knows wants just these, in this order.
func knows(t *testing.T, l terms, want ...api.Term) {
	t.Helper()
	if got, e := Known(l); e != api.OK || !slices.Equal(got, want) {
		t.Errorf("Known(%q): %q, %d, not %q", l, got, e, want)
	}
}

func comes(t *testing.T, want bool, goal api.Term, l ...api.Term) {
	t.Helper()
	if is, e := Derives(l, goal); e != api.OK || is != want {
		t.Errorf("Derives(%q, %q): %v, %d, not %v", l, goal, is, e, want)
	}
}

// fails wants an error of Known, and of Derives whatever its goal.
func fails(t *testing.T, want api.Errno, l terms) {
	t.Helper()
	if got, e := Known(l); e != want || len(got) != 0 {
		t.Errorf("Known of %d terms: %q, %d, not %d", len(l), got, e, want)
	}
	for _, goal := range []api.Term{n1, c0, "", "x", many(2001, "h"), deep(61)} {
		if is, e := Derives(l, goal); e != want || is {
			t.Errorf("Derives of %d terms, %q: %v, %d, not %d", len(l), goal, is, e, want)
		}
	}
}

// P4.1

func TestKnownOfNone(t *testing.T) {
	knows(t, nil)
	knows(t, terms{})
}

func TestKnownOfOne(t *testing.T) {
	knows(t, terms{n1}, n1)
	knows(t, terms{ca}, ca)
	knows(t, terms{hash(n1)}, hash(n1))
	knows(t, terms{hash(ca)}, ca, hash(ca))
	knows(t, terms{derive(n1, ca)}, ca, derive(n1, ca))
	knows(t, terms{mac(n1, n2)}, mac(n1, n2))
	knows(t, terms{seal(n1, n2)}, seal(n1, n2))
	knows(t, terms{pair(n1, n2)}, n1, n2, pair(n1, n2))
	knows(t, terms{pair(hash(n1), seal(n2, n3))}, hash(n1), pair(hash(n1), seal(n2, n3)), seal(n2, n3))
}

func TestKnownOnlyOfWhatIsIn(t *testing.T) {
	knows(t, terms{n1, n2}, n1, n2) // and no pair of them, no hash, no constant
	knows(t, terms{seal(n1, c0), mac(n1, ca)}, c0, ca, mac(n1, ca), seal(n1, c0))
	knows(t, terms{hash(hash(n1)), n1}, hash(hash(n1)), hash(n1), n1)
	knows(t, terms{hash(hash(n1)), hash(n1)}, hash(hash(n1)), hash(n1))
}

func TestKnownEachOnce(t *testing.T) {
	knows(t, terms{n1, n1, n1}, n1)
	knows(t, terms{pair(n1, n1)}, n1, pair(n1, n1))
	knows(t, terms{pair(n1, n2), pair(n1, n2), n2}, n1, n2, pair(n1, n2))
	knows(t, terms{seal(n1, n2), n1, seal(n1, n2), n1}, n1, n2, seal(n1, n2))
	knows(t, terms{seal(n1, n2), seal(n1, n2)}, seal(n1, n2))
	knows(t, slices.Repeat(terms{seal(ca, n2)}, 200), ca, n2, seal(ca, n2))
}

func TestKnownRisesAsBytes(t *testing.T) {
	high, low := api.Term("n\xff\x00"), api.Term("n\x7f\xff")
	l := terms{seal(n1, n2), pair(n1, n2), high, n2, mac(n1, n2), hash(n1), derive(n1, n2), ca, low, n1, "c\x02\x00\x00", "c\x01b", "c\x01\xff", c0}
	want := terms{c0, ca, "c\x01b", "c\x01\xff", "c\x02\x00\x00", derive(n1, n2), hash(n1), mac(n1, n2), n1, n2, low, high, pair(n1, n2), seal(n1, n2)}
	knows(t, l, want...)
	slices.Reverse(l)
	knows(t, l, want...)
}

func TestHowMany(t *testing.T) {
	knows(t, nonces(199), nonces(199)...)
	knows(t, nonces(200), nonces(200)...)
	fails(t, api.ErrBig, nonces(201))
	fails(t, api.ErrBig, nonces(1000))
	fails(t, api.ErrBig, slices.Repeat(terms{n1}, 201)) // the same one, too
	comes(t, true, term.NewNonce(199), nonces(200)...)
	comes(t, false, term.NewNonce(200), nonces(200)...)
}

func TestTooManyComesFirst(t *testing.T) {
	l := nonces(201)
	for _, bad := range []api.Term{"", "x", "n\x01"} {
		for _, at := range []int{0, 100, 200} {
			with := slices.Clone(l)
			with[at] = bad
			fails(t, api.ErrBig, with)
			if at < 200 {
				fails(t, api.ErrForm, with[:200])
			}
		}
	}
	fails(t, api.ErrBig, make(terms, 201))
	fails(t, api.ErrForm, make(terms, 200))
}

func TestFirstThatHasAnError(t *testing.T) {
	bigs := terms{many(2001, "x"), long(t, 2001), deep(61)}
	forms := terms{"", "x", "n\x00", hash("") + hash(""), "c\x29" + many(41, "a"), n1 + n1, deep(61) + "x"}
	for _, big := range bigs {
		fails(t, api.ErrBig, terms{big})
		fails(t, api.ErrBig, terms{n1, pair(n1, n2), big, n2})
		for _, form := range forms {
			fails(t, api.ErrForm, terms{form})
			fails(t, api.ErrForm, terms{n1, form, n2, big})
			fails(t, api.ErrBig, terms{n1, big, n2, form})
			fails(t, api.ErrForm, terms{form, big, form})
			fails(t, api.ErrBig, terms{big, form, big})
		}
	}
}

// P4.2

func TestExamples(t *testing.T) {
	comes(t, true, n2, seal(n1, n2), n1)
	comes(t, false, n2, seal(n1, n2))
	comes(t, true, hash(n2), pair(n1, n2))
}

func TestErrorsOfGoal(t *testing.T) {
	for _, l := range []terms{nil, {n1}, {pair(n1, ca), n2}, nonces(200)} {
		for goal, want := range map[api.Term]api.Errno{
			"": api.ErrForm, "x": api.ErrForm, "h": api.ErrForm, n1 + n1: api.ErrForm, pair(n1, ""): api.ErrForm, "c\x29" + many(41, "a"): api.ErrForm,
			many(2001, "x"): api.ErrBig, long(t, 2001): api.ErrBig, deep(61): api.ErrBig, deep(61) + "x": api.ErrForm,
		} {
			if is, e := Derives(l, goal); is || e != want {
				t.Errorf("Derives(%q, %q): %v, %d", l, goal, is, e)
			}
		}
	}
}

func TestConstantsOfNone(t *testing.T) {
	for _, goal := range []api.Term{c0, ca, "c\x28" + many(40, "\xff"), hash(c0), pair(ca, c0), seal(ca, hash(ca)), mac(c0, c0), derive(ca, c0), many(59, "h") + c0} {
		comes(t, true, goal)
		comes(t, true, goal, n1)
		comes(t, true, goal, seal(n1, n2))
	}
	comes(t, true, n1, seal(ca, n1))
	comes(t, true, n1, seal(pair(ca, hash(c0)), n1))
	comes(t, true, derive(n1, ca), n1)
}

func TestToAllThatIsMade(t *testing.T) {
	for _, make := range []func(a, b api.Term) api.Term{derive, mac, seal, pair} {
		comes(t, true, make(n1, n2), n1, n2)
		comes(t, true, make(n2, n1), n1, n2)
		comes(t, true, make(n1, n1), n1)
		comes(t, false, make(n1, n2), n1)
		comes(t, false, make(n1, n2), n2)
		comes(t, false, make(n1, n2), n3)
		comes(t, true, make(n1, n2), make(n1, n2))
		comes(t, true, make(hash(n1), make(n2, ca)), n1, n2)
		comes(t, true, make(hash(n1), make(n2, ca)), hash(n1), n2)
		comes(t, true, make(hash(n1), make(n2, ca)), hash(n1), make(n2, ca))
		comes(t, false, make(hash(n1), make(n2, n3)), n1, n2)
	}
	comes(t, true, pair(n2, n1), pair(n1, n2))
	comes(t, false, seal(n2, n1), seal(n1, n2))
	comes(t, false, mac(n2, n1), mac(n1, n2))
	comes(t, false, derive(n2, n1), derive(n1, n2))
	comes(t, true, hash(n1), n1)
	comes(t, false, hash(n1), n2)
	comes(t, false, hash(n1), hash(hash(n1)))
}

func TestWhatCantBeTakenApart(t *testing.T) {
	all := terms{hash(n1), derive(n1, n2), derive(n2, n1), mac(n1, n2), mac(n2, n1), seal(n1, n2), seal(n2, n1), hash(pair(n1, n2)), hash(seal(ca, n1)), mac(ca, n1), derive(ca, n1), mac(ca, pair(n1, n2))}
	comes(t, false, n1, all...)
	comes(t, false, n2, all...)
	for _, make := range []func(a, b api.Term) api.Term{derive, mac} {
		comes(t, false, n2, make(n1, n2), n1)
		comes(t, false, n1, make(n1, n2), n2)
		comes(t, false, n2, make(ca, n2))
	}
	comes(t, false, n1, seal(n1, n2), n2) // the key is not to be had of it
}

func TestKeysThatAreLearnt(t *testing.T) {
	for _, l := range []terms{
		{seal(n1, n2), n1},
		{n1, seal(n1, n2)},
		{seal(n1, n2), pair(n3, n1)},
		{seal(n3, n2), seal(n1, n3), n1}, // only from another one
		{n1, seal(n1, n3), seal(n3, n2)},
		{seal(n3, n2), pair(seal(n4, n3), seal(n1, n4)), n1},
		{seal(n1, pair(n3, seal(n3, n2))), n1},
		{seal(n1, seal(n1, n2)), n1},
		{seal(n1, seal(n3, n2)), n3, n1},
		{seal(hash(n1), n2), n1}, // only by making it
		{n1, seal(hash(n1), n2)},
		{seal(derive(n1, ca), n2), n1},
		{seal(mac(n1, n3), n2), n1, n3},
		{seal(pair(n1, n1), n2), n1},
		{seal(pair(n1, n3), n2), pair(n3, n1)},
		{seal(seal(n1, n3), n2), n3, n1},
		{seal(seal(n1, n3), n2), seal(n1, n3)},
		{seal(hash(derive(n1, pair(n3, ca))), n2), pair(n3, seal(n3, n1))},
		{seal(hash(n3), n2), seal(hash(hash(n1)), n3), hash(n1)}, // by making it of what is in another one
		{seal(ca, n2)},
		{seal(hash(ca), n2)},
	} {
		comes(t, true, n2, l...)
		knownHas(t, l, n2, true)
	}
}

func TestKeysThatAreNotLearnt(t *testing.T) {
	for _, l := range []terms{
		{seal(n1, n2), hash(n1)},
		{seal(hash(n1), n2), hash(hash(n1))},
		{seal(derive(n1, ca), n2), derive(n1, c0)},
		{seal(pair(n1, n3), n2), n1},
		{seal(pair(n1, n3), n2), n3},
		{seal(mac(n1, n3), n2), mac(n3, n1)},
		{seal(n1, n3), seal(n3, n2)},
		{seal(n1, n3), seal(n3, n1), seal(n3, n2), seal(n1, n2)},
		{seal(n2, n2)},
		{seal(hash(n2), n2)},
		{seal(seal(n1, n3), n2), n3},
	} {
		comes(t, false, n2, l...)
		knownHas(t, l, n2, false)
	}
}

func knownHas(t *testing.T, l terms, x api.Term, want bool) {
	t.Helper()
	if got, e := Known(l); e != api.OK || slices.Contains(got, x) != want {
		t.Errorf("Known(%q): %q, %d: has %q?", l, got, e, x)
	}
}

// What would be made of known parts and may not be is no goal, and does not stand in the way of others.
func TestWhatMayNotBe(t *testing.T) {
	most := deep(60)
	comes(t, true, most, n1)
	comes(t, true, most, deep(59))
	comes(t, false, n1, most)
	comes(t, true, pair(deep(59), deep(59)), n1)
	knows(t, terms{most}, most)
	l := long(t, 2000)
	comes(t, true, l, n1)
	comes(t, true, n1, l)
	comes(t, true, hash(long(t, 1999)), n1)
	comes(t, true, pair(n1, long(t, 1996)), n1)
	for _, goal := range []api.Term{hash(most), pair(most, n1), pair(n1, most), hash(l), pair(l, n1), seal(n1, long(t, 1997)), pair(l, l)} {
		if is, e := Derives(terms{most, l, n1}, goal); is || e != api.ErrBig {
			t.Errorf("Derives of one that may not be, %d bytes: %v, %d", len(goal), is, e)
		}
		if is, e := Derives(terms{n1, goal}, n1); is || e != api.ErrBig {
			t.Errorf("Derives with one that may not be, %d bytes: %v, %d", len(goal), is, e)
		}
	}
	comes(t, true, pair(n1, n2), most, l, n2)
}

// A whole world of terms, at most three deep, to which the rules are put as they are written: that no more than what is in view need be thought of is not taken for granted.
type world struct {
	all   terms
	at    map[api.Term]int
	kind  []byte
	parts [][]int
}

func newWorld(t *testing.T, deepest int, atoms ...api.Term) *world {
	t.Helper()
	w := &world{all: slices.Clone(atoms), at: map[api.Term]int{}}
	for range deepest - 1 {
		now := slices.Clone(w.all)
		for _, a := range now {
			w.all = append(w.all, hash(a))
			for _, b := range now {
				w.all = append(w.all, derive(a, b), mac(a, b), seal(a, b), pair(a, b))
			}
		}
		slices.Sort(w.all)
		w.all = slices.Compact(w.all)
	}
	for i, x := range w.all {
		w.at[x] = i
	}
	for _, x := range w.all {
		kind, l, e := term.Parts(x)
		if e != api.OK {
			t.Fatalf("Parts(%q): %d", x, e)
		}
		var at []int
		for _, p := range l {
			at = append(at, w.at[p])
		}
		w.kind, w.parts = append(w.kind, kind), append(w.parts, at)
	}
	return w
}

// least is the least set that the chapter's word names, by going through the world till nothing is new.
func (w *world) least(l terms) []bool {
	has := make([]bool, len(w.all))
	for _, x := range l {
		has[w.at[x]] = true
	}
	for more := true; more; {
		more = false
		put := func(i int, is bool) {
			if is && !has[i] {
				has[i], more = true, true
			}
		}
		for i, kind := range w.kind {
			switch p := w.parts[i]; kind {
			case term.Const:
				put(i, true)
			case term.Nonce:
			case term.Hash:
				put(i, has[p[0]])
			default:
				put(p[0], has[i] && kind == term.Pair)
				put(p[1], has[i] && (kind == term.Pair || kind == term.Seal && has[p[0]]))
				put(i, has[p[0]] && has[p[1]])
			}
		}
	}
	return has
}

// chance is a row of numbers that is the same in every run.
type chance uint64

func (c *chance) below(n int) int {
	*c ^= *c << 13
	*c ^= *c >> 7
	*c ^= *c << 17
	return int(uint64(*c) % uint64(n))
}

func (c *chance) some(from terms) terms {
	var l terms
	for range c.below(6) {
		l = append(l, from[c.below(len(from))])
	}
	return l
}

func subsOf(t *testing.T, l terms) terms {
	t.Helper()
	var all terms
	for _, x := range l {
		subs, e := term.Subs(x)
		if e != api.OK {
			t.Fatalf("Subs(%q): %d", x, e)
		}
		all = append(all, subs...)
	}
	slices.Sort(all)
	return slices.Compact(all)
}

func TestAgainstTheWholeWorld(t *testing.T) {
	w, dice := newWorld(t, 3, n1, n2, ca), chance(88172645463325252)
	likely := slices.DeleteFunc(slices.Clone(w.all), func(x api.Term) bool { return x[0] != term.Seal && x[0] != term.Pair && x[0] != term.Nonce })
	for round := range 20 {
		l := dice.some(w.all)
		if round%2 == 0 {
			l = dice.some(likely)
		}
		has := w.least(l)
		for i, goal := range w.all {
			comes(t, has[i], goal, l...)
		}
		knows(t, l, slices.DeleteFunc(subsOf(t, l), func(x api.Term) bool { return !has[w.at[x]] })...)
	}
}

// Of few and deep ones: chains of keys, in any order, in which one alone is missing or none.
func TestLongChains(t *testing.T) {
	const n = 180
	all := nonces(n + 1)
	for gap := -1; gap < n; gap += 60 {
		l := terms{all[0]}
		for i := range n {
			if i != gap {
				l = append(l, seal(all[i], all[i+1]))
			}
		}
		comes(t, gap < 0, all[n], l...)
		slices.Reverse(l)
		comes(t, gap < 0, all[n], l...)
		if gap >= 0 {
			comes(t, true, all[gap], l...)
			comes(t, false, all[gap+1], l...)
		}
	}
}

// The greatest that may be handed in, with the keys in the worst order, is no long work.
func TestMuch(t *testing.T) {
	var l terms
	key := 0
	for range 199 {
		x := c0
		for range 50 {
			x = pair(seal(term.NewNonce(uint16(key)), term.NewNonce(uint16(key+1))), x)
			key++
		}
		l = append(l, x)
	}
	slices.Reverse(l)
	comes(t, false, term.NewNonce(uint16(key)), l...)
	l = append(l, term.NewNonce(0))
	comes(t, true, term.NewNonce(uint16(key)), l...)
	if got, e := Known(l); e != api.OK || len(got) != key+1+key+199*50+1 {
		t.Errorf("Known of much: %d, %d", len(got), e)
	}
}

// P4.3

func TestMoreIsNoLess(t *testing.T) {
	w, dice := newWorld(t, 3, n1, n2, ca), chance(7)
	for range 300 {
		few, also := dice.some(w.all), dice.some(w.all)
		more := slices.Concat(also, few)
		goals := append(subsOf(t, more), dice.some(w.all)...)
		got, _ := Known(more)
		for _, x := range goals {
			if is, _ := Derives(few, x); is {
				comes(t, true, x, more...)
			}
		}
		less, _ := Known(few)
		for _, x := range less {
			if !slices.Contains(got, x) {
				t.Errorf("Known(%q) lacks %q", more, x)
			}
		}
	}
}

func TestKnownTellsNoMore(t *testing.T) {
	w, dice := newWorld(t, 3, n1, n2, ca), chance(11)
	for range 300 {
		l := dice.some(w.all)
		known, e := Known(l)
		if e != api.OK {
			t.Fatalf("Known(%q): %d", l, e)
		}
		both := slices.Concat(l, known)
		knows(t, both, known...)
		knows(t, known, known...)
		for _, x := range append(subsOf(t, l), dice.some(w.all)...) {
			is, _ := Derives(l, x)
			comes(t, is, x, both...)
			comes(t, is, x, known...)
		}
	}
}

// P4.4

func TestFreshNonces(t *testing.T) {
	w, dice := newWorld(t, 3, n1, n2, ca), chance(13)
	comes(t, false, n1)
	for range 300 {
		l := dice.some(w.all)
		in := subsOf(t, l)
		for _, n := range []api.Term{n1, n2, n3, "n\x00\x00", "n\x02\x00", "n\xff\xff"} {
			if slices.Contains(in, n) {
				continue
			}
			comes(t, false, n, l...)
			comes(t, false, hash(n), l...)
			comes(t, false, pair(n, ca), l...)
			comes(t, false, seal(ca, n), l...)
		}
	}
	// Its bytes, in a constant or in another one's, are not it.
	comes(t, false, n1, "c\x03"+n1, "n\x01n", "c\x05"+n1+n1[:2])
}

// P4.5

func TestSealedLeadsToNoMore(t *testing.T) {
	w, dice := newWorld(t, 3, n1, n2, ca), chance(17)
	tried := 0
	for range 1200 {
		l, key, in := dice.some(w.all), w.all[dice.below(len(w.all))], w.all[dice.below(len(w.all))]
		x := seal(key, in)
		if is, _ := Derives(l, key); is || slices.Contains(subsOf(t, l), x) {
			continue
		}
		tried++
		with := append(slices.Clone(l), x)
		comes(t, true, x, with...)
		for _, goal := range append(subsOf(t, with), dice.some(w.all)...) {
			if slices.Contains(subsOf(t, terms{goal}), x) {
				continue // what it is in
			}
			is, _ := Derives(l, goal)
			comes(t, is, goal, with...)
		}
		comes(t, true, hash(x), with...)
		comes(t, true, pair(x, ca), with...)
	}
	if tried < 100 {
		t.Errorf("tried %d alone", tried)
	}
}

func TestSealedOpensNothing(t *testing.T) {
	x := seal(n1, n2)
	comes(t, false, n2, x, hash(n1), derive(n1, ca), mac(n1, n2), seal(n3, n1))
	comes(t, false, n1, x, n2)
	comes(t, true, pair(x, hash(x)), x)
	comes(t, true, n3, x, seal(x, n3)) // it is in one of them, so it may be a key
}

// R6

func TestNothingIsShared(t *testing.T) {
	l := terms{seal(n1, n2), n1, pair(n3, ca), n1}
	was := slices.Clone(l)
	got, _ := Known(l)
	if _, e := Derives(l, pair(n1, n2)); e != api.OK || !slices.Equal(l, was) {
		t.Errorf("what was handed in is changed: %q, %d", l, e)
	}
	want := slices.Clone(got)
	for i := range got {
		got[i] = "x"
	}
	knows(t, l, want...)
	if !slices.Equal(l, was) {
		t.Errorf("an answer is what was handed in: %q", l)
	}
	same, _ := Known(want)
	same[0] = "x"
	knows(t, want, want...)
}
