package vote

import (
	"slices"
	"strings"
	"testing"

	"chantry/api"
	"chantry/count"
)

// aVote is a vote of who, of a kind, for a body.
type aVote struct {
	kind int
	who  uint8
	body string
}

// answer is all that Take answers.
type answer struct {
	next Case
	out  []Out
	body string
	is   bool
	e    api.Errno
}

func take(c Case, members api.Set, from uint8, v aVote) answer {
	var a answer
	a.next, a.out, a.body, a.is, a.e = Take(c, members, from, v.kind, v.who, v.body)
	return a
}

func sameCase(a, b Case) bool {
	return a.Echoed == b.Echoed && a.Readied == b.Readied && a.Done == b.Done && slices.Equal(a.Echoes, b.Echoes) && slices.Equal(a.Readies, b.Readies)
}

func sameAnswer(a, b answer) bool {
	return sameCase(a.next, b.next) && slices.Equal(a.out, b.out) && a.body == b.body && a.is == b.is && a.e == b.e
}

// copied holds a case against changes to its lists.
func copied(c Case) Case {
	c.Echoes, c.Readies = slices.Clone(c.Echoes), slices.Clone(c.Readies)
	return c
}

// answers fails unless Take answers want, and leaves c as it is.
func answers(t *testing.T, want answer, c Case, members api.Set, from uint8, v aVote) Case {
	t.Helper()
	before := copied(c)
	a := take(c, members, from, v)
	if !sameAnswer(a, want) {
		t.Errorf("%+v among %#x, from %d, %d by %d: %.20q: %+v, not %+v", before, members, from, v.kind, v.who, v.body, a, want)
	}
	if !sameCase(c, before) {
		t.Errorf("%+v was changed to %+v", before, c)
	}
	return a.next
}

// refuses fails unless Take answers the error, and c beside it.
func refuses(t *testing.T, e api.Errno, c Case, members api.Set, from uint8, v aVote) {
	t.Helper()
	answers(t, answer{next: c, e: e}, c, members, from, v)
}

func ballot(body string, ids ...uint8) Ballot {
	s, _ := count.Of(ids)
	return Ballot{Body: body, Who: s}
}

// first are n members, from 0 on.
func first(n int) api.Set { return api.Set(1<<n - 1) }

// draw gives numbers that are the same in every run.
func draw() func(below int) int {
	s := uint64(88172645463325252)
	return func(below int) int {
		s ^= s << 13
		s ^= s >> 7
		s ^= s << 17
		return int(s % uint64(below))
	}
}

// oddCases are cases of four members in which much may have happened.
func oddCases() []Case {
	return []Case{
		{},
		{Echoed: true},
		{Readied: true},
		{Done: true},
		{Echoed: true, Readied: true, Done: true},
		{Echoes: []Ballot{}, Readies: []Ballot{}},
		{Echoes: []Ballot{ballot("a", 0, 1), ballot("b", 3)}, Readies: []Ballot{ballot("b", 3)}},
		{Echoed: true, Readied: true, Echoes: []Ballot{ballot("a", 0, 1, 2)}, Readies: []Ballot{ballot("", 3), ballot("a", 1)}},
		{Echoed: true, Readied: true, Done: true, Echoes: []Ballot{ballot("a", 0, 1, 2, 3)}, Readies: []Ballot{ballot("a", 0, 1, 2, 3)}},
	}
}

func TestKinds(t *testing.T) {
	if Send != 1 || Echo != 2 || Ready != 3 {
		t.Errorf("%d, %d, %d", Send, Echo, Ready)
	}
	var kind int = Send
	var small uint8 = Ready // the constants are of no type, as in the document
	if kind != 1 || small != 3 {
		t.Errorf("%d, %d", kind, small)
	}
}

// P7.1

func TestFor(t *testing.T) {
	l := []Ballot{ballot("b", 1, 4), ballot("", 2), ballot("a", 0, 15), ballot("none"), ballot("a\x00", 9)}
	for body, want := range map[string]api.Set{"b": 0x12, "": 4, "a": 0x8001, "none": 0, "a\x00": 0x200, "c": 0, "A": 0, "b ": 0, "aa": 0, "\x00": 0} {
		if s := For(l, body); s != want {
			t.Errorf("For %q: %#x, not %#x", body, s, want)
		}
	}
}

func TestForOfNoBallots(t *testing.T) {
	for _, l := range [][]Ballot{nil, {}, make([]Ballot, 0, 5)} {
		for _, body := range []string{"", "a", strings.Repeat("a", 2000)} {
			if s := For(l, body); s != 0 {
				t.Errorf("For %.10q of none: %#x", body, s)
			}
		}
	}
}

func TestForTakesTheFirst(t *testing.T) {
	l := []Ballot{ballot("b", 1), ballot("a", 2), ballot("a", 3, 4), ballot("b", 5)}
	if s := For(l, "a"); s != 4 {
		t.Errorf("a: %#x", s)
	}
	if s := For(l, "b"); s != 2 {
		t.Errorf("b: %#x", s)
	}
	if s := For([]Ballot{{Body: "a"}, ballot("a", 1)}, "a"); s != 0 {
		t.Errorf("a first one of nobody: %#x", s)
	}
}

func TestForOfWhatMayNotBeTaken(t *testing.T) {
	long := strings.Repeat("x", 5000)
	l := []Ballot{{Body: long, Who: 0xffff}}
	if s := For(l, long); s != 0xffff {
		t.Errorf("of a long body: %#x", s)
	}
	if s := For(l, long[1:]); s != 0 {
		t.Errorf("of one that is a byte shorter: %#x", s)
	}
}

func TestForLeavesItsListAlone(t *testing.T) {
	l := []Ballot{ballot("b", 1), ballot("a", 2)}
	before := slices.Clone(l)
	For(l, "a")
	For(l, "c")
	if !slices.Equal(l, before) {
		t.Errorf("%v", l)
	}
}

// P7.2: what may not be

func TestOtherKinds(t *testing.T) {
	for _, c := range oddCases() {
		for _, kind := range []int{0, 4, 5, -1, -2, -3, 255, 256, 257, 258, 259, 1<<32 + 1, 1 << 62, -1 << 63, 1<<63 - 1} {
			refuses(t, api.ErrArg, c, 15, 0, aVote{kind, 0, "a"})
		}
	}
}

func TestEachKindDoesItsOwn(t *testing.T) {
	answers(t, answer{next: Case{Echoed: true}, out: []Out{{Echo, "a"}}}, Case{}, 15, 2, aVote{1, 2, "a"})
	answers(t, answer{next: Case{Echoes: []Ballot{ballot("a", 2)}}}, Case{}, 15, 2, aVote{2, 2, "a"})
	answers(t, answer{next: Case{Readies: []Ballot{ballot("a", 2)}}}, Case{}, 15, 2, aVote{3, 2, "a"})
}

func TestBytesOfABody(t *testing.T) {
	for _, n := range []int{0, 1, 999, 1000} {
		body := strings.Repeat("\xff", n)
		answers(t, answer{next: Case{Echoed: true}, out: []Out{{Echo, body}}}, Case{}, 15, 2, aVote{Send, 2, body})
		answers(t, answer{next: Case{Echoes: []Ballot{ballot(body, 3)}}}, Case{}, 15, 2, aVote{Echo, 3, body})
		answers(t, answer{next: Case{Readies: []Ballot{ballot(body, 3)}}}, Case{}, 15, 2, aVote{Ready, 3, body})
		answers(t, answer{next: Case{Readied: true, Done: true, Readies: []Ballot{ballot(body, 3)}}, out: []Out{{Ready, body}}, body: body, is: true}, Case{}, 8, 3, aVote{Ready, 3, body})
	}
	for _, n := range []int{1001, 1002, 2000, 100000} {
		for _, kind := range []int{Send, Echo, Ready} {
			for _, c := range oddCases() {
				refuses(t, api.ErrArg, c, 15, 2, aVote{kind, 2, strings.Repeat("a", n)})
			}
		}
	}
	// Bytes are counted, not letters: 501 letters of two bytes each.
	refuses(t, api.ErrArg, Case{}, 15, 2, aVote{Echo, 2, strings.Repeat("é", 501)})
}

func TestWhoIsNoMember(t *testing.T) {
	for _, members := range []api.Set{0, 1, 0x8000, 0x0ff0, 0xfffe, 0xffff} {
		for id := range 256 {
			if count.Has(members, uint8(id)) {
				continue
			}
			for _, kind := range []int{Send, Echo, Ready} {
				for _, c := range oddCases() {
					for _, from := range append(count.List(members), uint8(id)) {
						refuses(t, api.ErrMember, c, members, from, aVote{kind, uint8(id), "a"})
					}
				}
			}
		}
	}
}

func TestFromIsNoMember(t *testing.T) {
	for _, members := range []api.Set{1, 0x8000, 0x0ff0, 0x7fff, 0xffff} {
		for from := range 256 {
			if count.Has(members, uint8(from)) {
				continue
			}
			for _, kind := range []int{Send, Echo, Ready} {
				for _, c := range oddCases() {
					for _, who := range count.List(members) {
						refuses(t, api.ErrMember, c, members, uint8(from), aVote{kind, who, "a"})
					}
				}
			}
		}
	}
}

func TestTheLastIdsMayVote(t *testing.T) {
	for _, id := range []uint8{0, 14, 15} {
		answers(t, answer{next: Case{Echoed: true}, out: []Out{{Echo, "a"}}}, Case{}, 0xffff, id, aVote{Send, id, "a"})
		answers(t, answer{next: Case{Echoes: []Ballot{ballot("a", id)}}}, Case{}, 0xffff, id, aVote{Echo, id, "a"})
		answers(t, answer{next: Case{Readies: []Ballot{ballot("a", id)}}}, Case{}, 0xffff, id, aVote{Ready, id, "a"})
	}
}

func TestFirstError(t *testing.T) {
	long := strings.Repeat("a", 1001)
	full := Case{Echoed: true, Readied: true, Done: true, Echoes: []Ballot{ballot("a", 0, 1, 2, 3)}, Readies: []Ballot{ballot("a", 0, 1, 2, 3)}}
	for _, c := range []Case{{}, full} {
		// ErrArg ahead of ErrMember (and of ErrOld, in a full case)
		for _, ids := range [][2]uint8{{4, 0}, {0, 4}, {4, 4}, {16, 255}, {1, 0}, {0, 0}} {
			for _, kind := range []int{0, 4, -1} {
				refuses(t, api.ErrArg, c, 15, ids[1], aVote{kind, ids[0], "a"})
				refuses(t, api.ErrArg, c, 15, ids[1], aVote{kind, ids[0], long})
			}
			for _, kind := range []int{Send, Echo, Ready} {
				refuses(t, api.ErrArg, c, 15, ids[1], aVote{kind, ids[0], long})
			}
		}
		refuses(t, api.ErrArg, c, 0, 0, aVote{0, 0, ""})
		// ErrMember ahead of ErrOld
		refuses(t, api.ErrMember, c, 15, 0, aVote{Send, 1, "a"})
		refuses(t, api.ErrMember, c, 14, 0, aVote{Send, 0, "a"})
		refuses(t, api.ErrMember, c, 14, 1, aVote{Echo, 0, "a"})
		refuses(t, api.ErrMember, c, 14, 0, aVote{Echo, 1, "a"})
		refuses(t, api.ErrMember, c, 14, 1, aVote{Ready, 0, "a"})
		refuses(t, api.ErrMember, c, 14, 0, aVote{Ready, 1, "a"})
		refuses(t, api.ErrMember, c, 0, 0, aVote{Ready, 0, "a"})
	}
}

// P7.2: Send

func TestSendOfAnother(t *testing.T) {
	for from := range uint8(7) {
		for who := range uint8(7) {
			if who == from {
				answers(t, answer{next: Case{Echoed: true}, out: []Out{{Echo, "x"}}}, Case{}, first(7), from, aVote{Send, who, "x"})
				continue
			}
			refuses(t, api.ErrMember, Case{}, first(7), from, aVote{Send, who, "x"})
		}
	}
}

func TestSendOnce(t *testing.T) {
	c := answers(t, answer{next: Case{Echoed: true}, out: []Out{{Echo, "a"}}}, Case{}, 15, 2, aVote{Send, 2, "a"})
	refuses(t, api.ErrOld, c, 15, 2, aVote{Send, 2, "a"})
	refuses(t, api.ErrOld, c, 15, 2, aVote{Send, 2, "b"})
	refuses(t, api.ErrOld, c, 15, 2, aVote{Send, 2, ""})
	refuses(t, api.ErrMember, c, 15, 2, aVote{Send, 1, "a"})
}

// A Send is no vote of the lists: it asks how many there are of nothing.
func TestSendAsksNoBallots(t *testing.T) {
	for _, c := range oddCases() {
		for _, body := range []string{"a", "b", "", "new"} {
			if c.Echoed {
				refuses(t, api.ErrOld, c, 15, 3, aVote{Send, 3, body})
				continue
			}
			want := copied(c)
			want.Echoed = true
			answers(t, answer{next: want, out: []Out{{Echo, body}}}, c, 15, 3, aVote{Send, 3, body})
		}
	}
	c := Case{Echoes: []Ballot{ballot("a", 0, 1, 2, 3)}, Readies: []Ballot{ballot("a", 0, 1, 2, 3)}}
	want := copied(c)
	want.Echoed = true
	answers(t, answer{next: want, out: []Out{{Echo, "a"}}}, c, 15, 0, aVote{Send, 0, "a"})
}

// P7.2: Echo and Ready

func TestVotesTwice(t *testing.T) {
	c := Case{Echoes: []Ballot{ballot("a", 1), ballot("b", 0, 2)}, Readies: []Ballot{ballot("c", 3), ballot("d", 1)}}
	for _, body := range []string{"a", "b", "c", "d", "", "new"} {
		for _, who := range []uint8{0, 1, 2} {
			refuses(t, api.ErrOld, c, first(7), 4, aVote{Echo, who, body})
		}
		for _, who := range []uint8{1, 3} {
			refuses(t, api.ErrOld, c, first(7), 4, aVote{Ready, who, body})
		}
	}
}

func TestOneListIsNotTheOther(t *testing.T) {
	c := Case{Echoes: []Ballot{ballot("a", 1)}, Readies: []Ballot{ballot("a", 2)}}
	answers(t, answer{next: Case{Echoes: []Ballot{ballot("a", 1, 2)}, Readies: c.Readies}}, c, first(7), 0, aVote{Echo, 2, "a"})
	answers(t, answer{next: Case{Echoes: c.Echoes, Readies: []Ballot{ballot("a", 1, 2)}}}, c, first(7), 0, aVote{Ready, 1, "a"})
	answers(t, answer{next: Case{Echoed: true, Echoes: c.Echoes, Readies: c.Readies}, out: []Out{{Echo, "a"}}}, c, first(7), 1, aVote{Send, 1, "a"})
}

func TestOrderOfBallots(t *testing.T) {
	bodies := []string{"m", "z", "", "a", "m", "z\x00", "", "b"}
	want := []Ballot{ballot("m", 0, 4), ballot("z", 1), ballot("", 2, 6), ballot("a", 3), ballot("z\x00", 5), ballot("b", 7)}
	for _, kind := range []int{Echo, Ready} {
		var c Case
		for i, body := range bodies {
			a := take(c, 0xffff, 0, aVote{kind, uint8(i), body})
			if a.e != api.OK || a.is || len(a.out) > 0 {
				t.Fatalf("kind %d, %q: %+v", kind, body, a)
			}
			c = a.next
		}
		l, other := c.Echoes, c.Readies
		if kind == Ready {
			l, other = other, l
		}
		if !slices.Equal(l, want) || len(other) > 0 {
			t.Errorf("kind %d: %v, %v", kind, l, other)
		}
	}
}

// groupOf are n of the 16 ids, the highest among them, so that how many they are is not how high.
func groupOf(n int) api.Set {
	var s api.Set
	for i := range n {
		s = count.With(s, uint8(15-(i*5)%16))
	}
	return s
}

// of are the first n members of a set.
func of(s api.Set, n int) api.Set {
	var l api.Set
	for _, id := range count.List(s)[:n] {
		l = count.With(l, id)
	}
	return l
}

func TestEchoesThatAreEnough(t *testing.T) {
	for n := 1; n <= 16; n++ {
		group, need := groupOf(n), count.Echoes(n)
		ids := count.List(group)
		for has := range n {
			c := Case{Echoes: []Ballot{{"x", of(group, has)}}}
			want := answer{next: Case{Echoes: []Ballot{{"x", of(group, has+1)}}}}
			if has+1 >= need {
				want.next.Readied, want.out = true, []Out{{Ready, "x"}}
			}
			answers(t, want, c, group, ids[0], aVote{Echo, ids[has], "x"})
			c.Readied, want.next.Readied, want.out = true, true, nil
			answers(t, want, c, group, ids[0], aVote{Echo, ids[has], "x"})
		}
	}
}

func TestReadiesThatAreEnough(t *testing.T) {
	for n := 1; n <= 16; n++ {
		group := groupOf(n)
		ids := count.List(group)
		for has := range n {
			for flags := range 4 {
				c := Case{Readied: flags&1 > 0, Done: flags&2 > 0, Readies: []Ballot{{"x", of(group, has)}}}
				want := answer{next: Case{Readied: c.Readied, Done: c.Done, Readies: []Ballot{{"x", of(group, has+1)}}}}
				if !c.Readied && has+1 >= count.Readies(n) {
					want.next.Readied, want.out = true, []Out{{Ready, "x"}}
				}
				if !c.Done && has+1 >= count.Enough(n) {
					want.next.Done, want.body, want.is = true, "x", true
				}
				answers(t, want, c, group, ids[0], aVote{Ready, ids[has], "x"})
			}
		}
	}
}

// The numbers are written out, so that no fault of theirs is shared.
func TestNumbersOfGroups(t *testing.T) {
	for _, g := range []struct{ n, echoes, readies, enough int }{{1, 1, 1, 1}, {2, 2, 1, 1}, {3, 2, 1, 1}, {4, 3, 2, 3}, {7, 5, 3, 5}, {16, 11, 6, 11}} {
		ready, done := 0, 0
		var c Case
		for i := range g.n {
			a := take(c, first(g.n), 0, aVote{Echo, uint8(i), "x"})
			if len(a.out) > 0 {
				ready = i + 1
			}
			c = a.next
		}
		if ready != g.echoes {
			t.Errorf("of %d: ready by %d echoes, not %d", g.n, ready, g.echoes)
		}
		c, ready = Case{}, 0
		for i := range g.n {
			a := take(c, first(g.n), 0, aVote{Ready, uint8(i), "x"})
			if len(a.out) > 0 {
				ready = i + 1
			}
			if a.is {
				done = i + 1
			}
			c = a.next
		}
		if ready != g.readies || done != g.enough {
			t.Errorf("of %d: ready by %d readies, not %d, done by %d, not %d", g.n, ready, g.readies, done, g.enough)
		}
	}
}

func TestReadiedAndDoneAtOnce(t *testing.T) {
	for n := 1; n <= 3; n++ {
		want := answer{next: Case{Readied: true, Done: true, Readies: []Ballot{ballot("x", 0)}}, out: []Out{{Ready, "x"}}, body: "x", is: true}
		answers(t, want, Case{}, first(n), 0, aVote{Ready, 0, "x"})
		want = answer{next: Case{Readied: true, Done: true, Readies: []Ballot{ballot("", 0)}}, out: []Out{{Ready, ""}}, is: true}
		answers(t, want, Case{}, first(n), 0, aVote{Ready, 0, ""})
	}
	want := answer{next: Case{Readied: true, Done: true, Readies: []Ballot{ballot("x", 0, 1, 2)}}, out: []Out{{Ready, "x"}}, body: "x", is: true}
	answers(t, want, Case{Readies: []Ballot{ballot("x", 0, 1)}}, 15, 0, aVote{Ready, 2, "x"})
}

func TestEveryBodyIsCountedAlone(t *testing.T) {
	c := Case{Echoes: []Ballot{ballot("a", 0, 1), ballot("b", 2, 3), ballot("c", 4, 5)}, Readies: []Ballot{ballot("a", 0, 1), ballot("b", 2, 3)}}
	want := copied(c)
	want.Echoes[1] = ballot("b", 2, 3, 6)
	answers(t, answer{next: want}, c, first(7), 0, aVote{Echo, 6, "b"})
	want = copied(c)
	want.Readies = append(want.Readies, ballot("c", 6))
	answers(t, answer{next: want}, c, first(7), 0, aVote{Ready, 6, "c"})
	// what another body has makes nobody ready, and delivers nothing
	c = Case{Echoes: []Ballot{ballot("a", 0, 1, 2, 3, 4, 5)}, Readies: []Ballot{ballot("a", 0, 1, 2, 3, 4, 5)}}
	want = copied(c)
	want.Echoes = append(want.Echoes, ballot("b", 6))
	answers(t, answer{next: want}, c, first(7), 0, aVote{Echo, 6, "b"})
	want = copied(c)
	want.Readies = append(want.Readies, ballot("b", 6))
	answers(t, answer{next: want}, c, first(7), 0, aVote{Ready, 6, "b"})
}

func TestEchoesAndReadiesAreCountedApart(t *testing.T) {
	c := Case{Echoes: []Ballot{ballot("a", 0, 1, 2, 3)}, Readies: []Ballot{ballot("a", 0)}}
	answers(t, answer{next: Case{Echoes: c.Echoes, Readies: []Ballot{ballot("a", 0, 1)}}}, c, first(7), 0, aVote{Ready, 1, "a"})
	c = Case{Echoes: []Ballot{ballot("a", 0)}, Readies: []Ballot{ballot("a", 0, 1, 2, 3, 4, 5)}}
	answers(t, answer{next: Case{Echoes: []Ballot{ballot("a", 0, 1)}, Readies: c.Readies}}, c, first(7), 0, aVote{Echo, 1, "a"})
}

func TestReadyOfAnotherBodyThanCast(t *testing.T) {
	// ready for a, but b is what enough are ready for: b is delivered, and no vote for b is cast
	c := Case{Readied: true, Readies: []Ballot{ballot("a", 3), ballot("b", 0, 1)}}
	want := answer{next: Case{Readied: true, Done: true, Readies: []Ballot{ballot("a", 3), ballot("b", 0, 1, 2)}}, body: "b", is: true}
	answers(t, want, c, 15, 0, aVote{Ready, 2, "b"})
}

// P7.2: as the words say, over many cases

// model holds votes as the chapter tells them: one by one, in order.
type model struct {
	echoed, readied, done bool
	echoes, readies       []aVote
}

func (m *model) ballots(l []aVote) []Ballot {
	var b []Ballot
	for i, v := range l {
		if slices.ContainsFunc(l[:i], func(w aVote) bool { return w.body == v.body }) {
			continue
		}
		var who api.Set
		for _, w := range l {
			if w.body == v.body {
				who |= 1 << w.who
			}
		}
		b = append(b, Ballot{v.body, who})
	}
	return b
}

func (m *model) asCase() Case {
	return Case{m.echoed, m.readied, m.done, m.ballots(m.echoes), m.ballots(m.readies)}
}

func tally(l []aVote, body string) int {
	n := 0
	for _, v := range l {
		if v.body == body {
			n++
		}
	}
	return n
}

func has(l []aVote, who uint8) bool {
	return slices.ContainsFunc(l, func(v aVote) bool { return v.who == who })
}

func (m *model) err(members api.Set, from uint8, v aVote) api.Errno {
	in := func(id uint8) bool { return slices.Contains(count.List(members), id) }
	switch {
	case v.kind != 1 && v.kind != 2 && v.kind != 3 || len(v.body) > 1000:
		return api.ErrArg
	case !in(v.who) || !in(from) || v.kind == 1 && v.who != from:
		return api.ErrMember
	case v.kind == 1 && m.echoed || v.kind == 2 && has(m.echoes, v.who) || v.kind == 3 && has(m.readies, v.who):
		return api.ErrOld
	}
	return api.OK
}

func (m *model) take(members api.Set, from uint8, v aVote) answer {
	if e := m.err(members, from, v); e != api.OK {
		return answer{next: m.asCase(), e: e}
	}
	var a answer
	n := len(count.List(members))
	f := (n - 1) / 3
	ready := false
	switch v.kind {
	case 1:
		m.echoed = true
		a.out = []Out{{2, v.body}}
	case 2:
		m.echoes = append(m.echoes, v)
		ready = 2*tally(m.echoes, v.body) > n+f
	case 3:
		m.readies = append(m.readies, v)
		ready = tally(m.readies, v.body) > f
		if !m.done && tally(m.readies, v.body) > 2*f {
			m.done, a.body, a.is = true, v.body, true
		}
	}
	if ready && !m.readied {
		m.readied = true
		a.out = []Out{{3, v.body}}
	}
	a.next = m.asCase()
	return a
}

func TestAsTheWordsSay(t *testing.T) {
	next := draw()
	bodies := []string{"", "a", "b", strings.Repeat("c", 1000), strings.Repeat("c", 1001)}
	seen := map[api.Errno]int{}
	for range 4000 {
		members := api.Set(next(1 << 16))
		if next(2) == 0 {
			members = first(1 + next(16))
		}
		many := 1 + next(len(bodies))
		from := uint8(next(17))
		if l := count.List(members); len(l) > 0 && next(8) > 0 {
			from = l[next(len(l))]
		}
		var c Case
		var m model
		for range 10 + next(60) {
			v := aVote{kind: next(3) + 1, who: uint8(next(17)), body: bodies[next(1+next(many))]}
			if next(20) == 0 {
				v.kind = next(9) - 3
			}
			if next(4) == 0 {
				v.who = from
			}
			before := copied(c)
			a, want := take(c, members, from, v), m.take(members, from, v)
			if !sameAnswer(a, want) || !sameCase(c, before) {
				t.Fatalf("%+v among %#x, from %d, %d by %d: %.10q: %+v, not %+v", c, members, from, v.kind, v.who, v.body, a, want)
			}
			seen[a.e]++
			if a.is {
				seen[-1]++
			}
			c = a.next
		}
	}
	for _, e := range []api.Errno{api.OK, api.ErrArg, api.ErrMember, api.ErrOld, -1} {
		if seen[e] < 500 {
			t.Errorf("too few of %d: %d", e, seen[e])
		}
	}
}

// Of unsound cases nothing is promised but that it ends.
func TestUnsoundCasesEnd(t *testing.T) {
	next := draw()
	for range 5000 {
		var c Case
		for range next(6) {
			c.Echoes = append(c.Echoes, Ballot{string(rune('a' + next(3))), api.Set(next(1 << 16))})
			c.Readies = append(c.Readies, Ballot{string(rune('a' + next(3))), api.Set(next(1 << 16))})
		}
		c.Echoed, c.Readied, c.Done = next(2) == 0, next(2) == 0, next(2) == 0
		before := copied(c)
		take(c, api.Set(next(1<<16)), uint8(next(18)), aVote{next(5), uint8(next(18)), string(rune('a' + next(4)))})
		if !sameCase(c, before) {
			t.Fatalf("%+v was changed to %+v", before, c)
		}
	}
}

// P7.2: the example

func TestExample(t *testing.T) {
	var c Case
	for i := range uint8(3) {
		a := take(c, 15, 0, aVote{Echo, i, "a"})
		if a.e != api.OK || a.is || i < 2 && len(a.out) > 0 || i == 2 && !slices.Equal(a.out, []Out{{Ready, "a"}}) {
			t.Errorf("echo %d: %+v", i, a)
		}
		c = a.next
	}
	for i := range uint8(3) {
		a := take(c, 15, 0, aVote{Ready, i, "a"})
		if a.e != api.OK || len(a.out) > 0 || a.is != (i == 2) || a.is != (a.body == "a") {
			t.Errorf("ready %d: %+v", i, a)
		}
		c = a.next
	}
	if !sameCase(c, Case{Readied: true, Done: true, Echoes: []Ballot{ballot("a", 0, 1, 2)}, Readies: []Ballot{ballot("a", 0, 1, 2)}}) {
		t.Errorf("%+v", c)
	}
}

// R3, R4, R6, R8

// roomy is a case whose lists have room behind them, into which nobody is to write.
func roomy() (Case, []Ballot) {
	room := make([]Ballot, 16)
	room[0], room[8] = ballot("a", 1), ballot("b", 2)
	return Case{Echoes: room[0:1:8], Readies: room[8:9]}, room
}

func TestNothingIsWrittenInto(t *testing.T) {
	for _, kind := range []int{0, Send, Echo, Ready} {
		for _, body := range []string{"a", "b", "new"} {
			for _, who := range []uint8{0, 1, 2} {
				c, room := roomy()
				before := slices.Clone(room)
				take(c, first(7), 0, aVote{kind, who, body})
				if !slices.Equal(room, before) {
					t.Errorf("kind %d, %q by %d: %v", kind, body, who, room)
				}
			}
		}
	}
}

func scribble(l []Ballot) {
	for i := range l[:cap(l)] {
		l[:cap(l)][i] = ballot("scribbled", 9)
	}
}

func TestAnswersAreNewMemory(t *testing.T) {
	for _, kind := range []int{0, Send, Echo, Ready} {
		for _, body := range []string{"a", "b", "new"} {
			for _, who := range []uint8{0, 1, 2} {
				v := aVote{kind, who, body}
				c, room := roomy()
				before := slices.Clone(room)
				a := take(c, first(7), 0, v)
				kept := copied(a.next)
				scribble(room)
				if !sameCase(a.next, kept) {
					t.Errorf("%v: what was handed in is kept: %+v", v, a.next)
				}
				copy(room, before)
				scribble(a.next.Echoes)
				if !slices.Equal(a.next.Readies, kept.Readies) || !slices.Equal(room, before) {
					t.Errorf("%v: Echoes are shared: %+v, %v", v, a.next, room)
				}
				scribble(a.next.Readies)
				if !slices.Equal(room, before) {
					t.Errorf("%v: Readies are shared: %v", v, room)
				}
				if again := take(c, first(7), 0, v); !sameCase(again.next, kept) {
					t.Errorf("%v: answered unlike: %+v, %+v", v, again.next, kept)
				}
			}
		}
	}
}

func TestOneListHandedInTwice(t *testing.T) {
	for _, v := range []aVote{{Echo, 3, "a"}, {Ready, 3, "a"}, {Echo, 3, "b"}, {Ready, 3, "b"}, {Send, 0, "a"}, {Echo, 1, "a"}, {9, 1, "a"}} {
		l := []Ballot{ballot("a", 1)}
		a := take(Case{Echoes: l, Readies: l}, first(7), 0, v)
		kept := copied(a.next)
		scribble(a.next.Echoes)
		if !slices.Equal(a.next.Readies, kept.Readies) || !slices.Equal(l, []Ballot{ballot("a", 1)}) {
			t.Errorf("%v: %+v, %v", v, a.next, l)
		}
	}
}

func TestTwoFromOneCase(t *testing.T) {
	c := Case{Echoes: make([]Ballot, 0, 8)}
	a, b := take(c, first(7), 0, aVote{Echo, 1, "a"}), take(c, first(7), 0, aVote{Echo, 2, "b"})
	if !slices.Equal(a.next.Echoes, []Ballot{ballot("a", 1)}) || !slices.Equal(b.next.Echoes, []Ballot{ballot("b", 2)}) {
		t.Errorf("%v, %v", a.next.Echoes, b.next.Echoes)
	}
	// nor do those that grow from one that was answered
	x, y := take(a.next, first(7), 0, aVote{Echo, 3, "x"}), take(a.next, first(7), 0, aVote{Echo, 4, "y"})
	if !slices.Equal(x.next.Echoes, []Ballot{ballot("a", 1), ballot("x", 3)}) || !slices.Equal(y.next.Echoes, []Ballot{ballot("a", 1), ballot("y", 4)}) {
		t.Errorf("%v, %v", x.next.Echoes, y.next.Echoes)
	}
}

func TestEmptyListsAreAsNone(t *testing.T) {
	for _, v := range []aVote{{Send, 0, "a"}, {Echo, 1, "a"}, {Ready, 1, "a"}, {Send, 1, "a"}, {0, 0, "a"}} {
		a, b := take(Case{}, 15, 0, v), take(Case{Echoes: []Ballot{}, Readies: make([]Ballot, 0, 3)}, 15, 0, v)
		if !sameAnswer(a, b) {
			t.Errorf("%v: %+v, %+v", v, a, b)
		}
	}
}
