package flush

import (
	"slices"
	"testing"

	"chantry/api"
)

const every = api.Set(1<<16 - 1)

// of is the set of some members.
func of(l ...uint8) api.Set {
	var s api.Set
	for _, id := range l {
		s |= 1 << id
	}
	return s
}

// ids is who is in a set.
func ids(s api.Set) []uint8 {
	var l []uint8
	for id := range uint8(16) {
		if s>>id&1 == 1 {
			l = append(l, id)
		}
	}
	return l
}

// vec is one of n for each member of a set.
func vec(s api.Set, n uint16) api.Vec {
	var v api.Vec
	for _, id := range ids(s) {
		v[id] = n
	}
	return v
}

// at is a vector with n at one place.
func at(v api.Vec, id uint8, n uint16) api.Vec {
	v[id] = n
	return v
}

// full is a flush in which each member's mark is one vector.
func full(s api.Set, v api.Vec) Flush {
	f := Flush{Members: s}
	for _, id := range ids(s) {
		f.Marks = append(f.Marks, Mark{id, v})
	}
	return f
}

// without is a flush without the mark of one place.
func without(f Flush, i int) Flush {
	f.Marks = slices.Concat(f.Marks[:i], f.Marks[i+1:])
	return f
}

// with is a list of marks with one more, by rising Who.
func with(l []Mark, m Mark) []Mark {
	l = append(slices.Clone(l), m)
	slices.SortStableFunc(l, func(a, b Mark) int { return int(a.Who) - int(b.Who) })
	return l
}

// copied holds a flush against changes to its list.
func copied(f Flush) Flush {
	f.Marks = append([]Mark(nil), f.Marks...)
	return f
}

func same(a, b Flush) bool { return a.Members == b.Members && slices.Equal(a.Marks, b.Marks) }

// draw answers numbers below n, the same ones each time.
func draw(seed uint64) func(n int) int {
	return func(n int) int {
		seed ^= seed << 13
		seed ^= seed >> 7
		seed ^= seed << 17
		return int(seed>>8) % n
	}
}

// shuffle puts a list in some order.
func shuffle[T any](n func(int) int, l []T) {
	for i := range l {
		j := n(i + 1)
		l[i], l[j] = l[j], l[i]
	}
}

// answers fails unless Put answers the flush and the error, and leaves f as it is.
func answers(t *testing.T, want Flush, e api.Errno, f Flush, m Mark) Flush {
	t.Helper()
	before := copied(f)
	next, is := Put(f, m)
	if !same(next, want) || is != e {
		t.Errorf("%+v, %+v:\n%+v, error %d, not\n%+v, error %d", before, m, next, is, want, e)
	}
	if !same(f, before) {
		t.Errorf("%+v was changed to %+v", before, f)
	}
	return next
}

// takes fails unless Put answers a flush that has those marks then.
func takes(t *testing.T, want []Mark, f Flush, m Mark) Flush {
	t.Helper()
	return answers(t, Flush{f.Members, want}, api.OK, f, m)
}

// refuses fails unless Put answers the error, and f as it is.
func refuses(t *testing.T, e api.Errno, f Flush, m Mark) {
	t.Helper()
	answers(t, copied(f), e, f, m)
}

// aims fails unless Target answers the vector, and Over is true of it, and of nothing that differs from it by one number.
func aims(t *testing.T, want api.Vec, f Flush) {
	t.Helper()
	before := copied(f)
	if v, is := Target(f); v != want || !is {
		t.Errorf("%+v: %v, %t, not %v", f, v, is, want)
	}
	if !Over(f, want) {
		t.Errorf("%+v: not over at %v", f, want)
	}
	for id, n := range want {
		for _, k := range []uint16{n + 1, n - 1, 0, 1000, n + 256, n ^ 1<<15, 65535} {
			if told := at(want, uint8(id), k); k != n && Over(f, told) {
				t.Errorf("%+v: over at %v, not at %v alone", f, told, want)
			}
		}
	}
	if Over(f, api.Vec{}) {
		t.Errorf("%+v: over at nothing", f)
	}
	if !same(f, before) {
		t.Errorf("%+v was changed to %+v", before, f)
	}
}

// aimsAtNothing fails unless Target answers that there is nothing, and nothing beside it, and Over is false.
func aimsAtNothing(t *testing.T, f Flush) {
	t.Helper()
	before := copied(f)
	if v, is := Target(f); v != (api.Vec{}) || is {
		t.Errorf("%+v: %v, %t", f, v, is)
	}
	for _, told := range []api.Vec{{}, joined(f), vec(f.Members, 1), vec(every, 1), vec(f.Members, 1000)} {
		if Over(f, told) {
			t.Errorf("%+v: over at %v", f, told)
		}
	}
	if !same(f, before) {
		t.Errorf("%+v was changed to %+v", before, f)
	}
}

// joined is at each place the greatest number of a flush's marks, of which each one's own is one more.
func joined(f Flush) api.Vec {
	var v api.Vec
	for id := range v {
		for _, m := range f.Marks {
			n := m.Past[id]
			if int(m.Who) == id {
				n++
			}
			v[id] = max(v[id], n)
		}
	}
	return v
}

// wrongFlushes are flushes that may not be, by one thing each; many have as many marks as members.
func wrongFlushes() []Flush {
	l := []Flush{{}, {Marks: []Mark{}}, {Marks: []Mark{{}}}, {Marks: []Mark{{Who: 3}}}}
	s := of(0, 1, 2, 5)
	a, b, c, d := Mark{0, api.Vec{1}}, Mark{1, api.Vec{1, 1}}, Mark{2, api.Vec{0, 0, 3}}, Mark{Who: 5}
	for _, marks := range [][]Mark{
		{b, a}, {a, c, b}, {d, a, b, c}, {a, b, d, c}, {b, a, c, d}, {d, c, b, a}, // out of order
		{a, a}, {a, b, b}, {a, b, c, c}, {a, a, b, c}, {a, b, c, a}, {a, b, c, d, d}, {a, {Who: 0}, c, d}, {a, b, c, {2, api.Vec{1}}}, // twice
		{{Who: 3}}, {a, b, c, {Who: 4}}, {a, b, c, {Who: 15}}, {a, b, c, {Who: 16}}, {a, b, c, {Who: 18}}, // of none
		{a, b, c, {Who: 21}}, {a, b, c, {Who: 37}}, {a, b, c, {Who: 255}}, {a, b, c, d, {Who: 6}}, {a, b, c, {Who: 3}, d},
		{{0, api.Vec{1000}}}, {{0, api.Vec{0, 1000}}, b, c, d}, {a, b, c, {5, api.Vec{5: 1000}}}, {a, b, c, {5, api.Vec{1000}}}, // too great
		{a, {1, api.Vec{1001}}, c, d}, {a, b, {2, api.Vec{1, 1, 1024}}, d}, {a, b, c, {5, api.Vec{5: 65535}}}, {a, b, c, {5, api.Vec{1: 32768}}},
		{{0, api.Vec{3: 1}}}, {a, b, c, {5, api.Vec{3: 1}}}, {{0, api.Vec{4: 1}}, b, c, d}, {a, {1, api.Vec{1, 1, 1, 15: 1}}, c, d}, // of those who are no members
		{a, b, {2, api.Vec{6: 999}}, d}, {a, b, c, {5, api.Vec{7: 1000}}}, {a, b, {2, api.Vec{14: 256}}, d},
	} {
		l = append(l, Flush{s, marks})
	}
	for _, id := range []uint8{0, 7, 15} {
		l = append(l, Flush{of(id), []Mark{{id, at(api.Vec{}, id, 1000)}}}, Flush{of(id), []Mark{{id, at(api.Vec{}, (id+1)%16, 1)}}})
		l = append(l, Flush{of(id), []Mark{{Who: (id + 1) % 16}}}, Flush{of(id), []Mark{{Who: id}, {Who: id}}}, Flush{of(id), []Mark{{Who: id + 16}}})
	}
	all := full(every, vec(every, 4))
	more, high := copied(all), copied(all)
	more.Marks = append(more.Marks, Mark{Who: 15})
	high.Marks[9].Past[3] = 1000
	falling := copied(all)
	slices.Reverse(falling.Marks)
	return append(l, more, high, falling)
}

// P13.1

func TestPutIntoAnEmptyFlush(t *testing.T) {
	s := of(0, 3, 15)
	for _, who := range ids(s) {
		for _, v := range []api.Vec{{}, {4}, {0: 1, 3: 2, 15: 3}, {3: 999}, vec(s, 999)} {
			takes(t, []Mark{{who, v}}, Flush{Members: s}, Mark{who, v})
		}
	}
}

func TestPutAmongOthers(t *testing.T) {
	s := of(1, 4, 9, 12)
	a, b, c, d := Mark{1, api.Vec{1: 3}}, Mark{Who: 4}, Mark{9, api.Vec{4: 7, 12: 1}}, Mark{12, vec(s, 2)}
	f := Flush{s, []Mark{b, c}}
	takes(t, []Mark{a, b, c}, f, a)
	takes(t, []Mark{b, c, d}, f, d)
	f = Flush{s, []Mark{a, d}}
	takes(t, []Mark{a, b, d}, f, b)
	takes(t, []Mark{a, c, d}, f, c)
	takes(t, []Mark{a, b, c, d}, Flush{s, []Mark{a, c, d}}, b)
}

func TestPutOfOneMemberAlone(t *testing.T) {
	for id := range uint8(16) {
		for _, n := range []uint16{0, 1, 255, 998, 999} {
			m := Mark{id, at(api.Vec{}, id, n)}
			f := takes(t, []Mark{m}, Flush{Members: of(id)}, m)
			refuses(t, api.ErrHave, f, m)
			refuses(t, api.ErrHave, f, Mark{Who: id})
			refuses(t, api.ErrMember, f, Mark{Who: (id + 1) % 16})
		}
	}
}

// In whatever order all sixteen put theirs, they stand by rising Who.
func TestPutOfAllSixteen(t *testing.T) {
	n := draw(9)
	var want []Mark
	for id := range uint8(16) {
		want = append(want, Mark{id, at(vec(every, uint16(id)*60), id, 999-uint16(id))})
	}
	for range 300 {
		f, waits := Flush{Members: every}, slices.Clone(want)
		shuffle(n, waits)
		var put []Mark
		for _, m := range waits {
			aimsAtNothing(t, f)
			put = with(put, m)
			f = takes(t, put, f, m)
		}
		if !slices.Equal(f.Marks, want) {
			t.Errorf("%+v", f)
		}
		for _, m := range want {
			refuses(t, api.ErrHave, f, m)
		}
	}
}

func TestPutOfWhoIsNoMember(t *testing.T) {
	for _, s := range []api.Set{of(0), of(15), of(0, 2, 15), of(1, 3, 9), every, every &^ 1, every >> 1} {
		for _, f := range []Flush{{Members: s}, {s, []Mark{{Who: ids(s)[0]}}}, full(s, vec(s, 5))} {
			for who := range 256 {
				if who > 15 || s>>who&1 == 0 {
					refuses(t, api.ErrMember, f, Mark{Who: uint8(who)})
					refuses(t, api.ErrMember, f, Mark{uint8(who), vec(s, 1)})
				}
			}
		}
	}
}

func TestPutOfOneWhoseMarkIsThere(t *testing.T) {
	s := of(0, 1, 2, 3)
	f := Flush{s, []Mark{{0, api.Vec{5}}, {Who: 2}, {3, api.Vec{1, 1, 1, 1}}}}
	for _, m := range f.Marks {
		for _, v := range []api.Vec{m.Past, {}, {5}, {1, 1, 1, 2}, vec(s, 999)} {
			refuses(t, api.ErrHave, f, Mark{m.Who, v})
		}
	}
	takes(t, with(f.Marks, Mark{1, api.Vec{5}}), f, Mark{1, api.Vec{5}})
}

// Each number that there is, at each place.
func TestPutOfEachNumber(t *testing.T) {
	s := of(0, 1, 4, 9, 15)
	for _, f := range []Flush{{Members: s}, {s, []Mark{{0, vec(s, 999)}, {Who: 15}}}} {
		for id := range uint8(16) {
			for n := range 1 << 16 {
				if n > 2000 && n%257 != 0 && n%4096 != 1000 {
					continue // not all of so many
				}
				m := Mark{4, at(vec(s, 3), id, uint16(n))}
				if n < 1000 && (n == 0 || s>>id&1 == 1) {
					takes(t, with(f.Marks, m), f, m)
				} else {
					refuses(t, api.ErrArg, f, m)
				}
			}
		}
	}
}

func TestPutOfNumbersAtTheBound(t *testing.T) {
	for _, s := range []api.Set{of(0), of(15), of(2, 3), every} {
		for _, id := range ids(s) {
			f := Flush{Members: s}
			takes(t, []Mark{{id, vec(s, 999)}}, f, Mark{id, vec(s, 999)})
			for _, other := range ids(s) {
				refuses(t, api.ErrArg, f, Mark{id, at(vec(s, 999), other, 1000)})
				refuses(t, api.ErrArg, f, Mark{id, at(api.Vec{}, other, 1000)})
			}
			refuses(t, api.ErrArg, f, Mark{id, vec(s, 1000)})
			for other := range uint8(16) {
				if s>>other&1 == 0 {
					refuses(t, api.ErrArg, f, Mark{id, at(vec(s, 999), other, 1)})
				}
			}
		}
	}
}

func TestPutIntoAFlushThatMayNotBe(t *testing.T) {
	for _, f := range wrongFlushes() {
		for _, who := range []uint8{0, 1, 2, 4, 5, 7, 15, 16, 255} {
			for _, v := range []api.Vec{{}, {1}, {5: 2}, {3: 1}, {1000}} {
				refuses(t, api.ErrArg, f, Mark{who, v})
			}
		}
	}
}

func TestWhichErrorComesFirst(t *testing.T) {
	wrong := Flush{of(0, 1, 3), []Mark{{Who: 1}, {Who: 0}}}
	refuses(t, api.ErrArg, wrong, Mark{Who: 4}) // ahead of ErrMember
	refuses(t, api.ErrArg, wrong, Mark{Who: 1}) // of ErrHave
	refuses(t, api.ErrArg, Flush{}, Mark{Who: 1})
	f := Flush{of(0, 1, 3), []Mark{{Who: 1}}}
	refuses(t, api.ErrMember, f, Mark{4, api.Vec{1000}}) // ahead of the later ErrArg
	refuses(t, api.ErrMember, f, Mark{4, api.Vec{4: 1}})
	refuses(t, api.ErrMember, f, Mark{16, api.Vec{2: 1}})
	refuses(t, api.ErrMember, f, Mark{Who: 17}) // which is not taken for 1, whose mark is there
	refuses(t, api.ErrHave, f, Mark{1, api.Vec{1000}})
	refuses(t, api.ErrHave, f, Mark{1, api.Vec{2: 1}})
	refuses(t, api.ErrArg, f, Mark{0, api.Vec{1000}})
	refuses(t, api.ErrArg, f, Mark{0, api.Vec{2: 1}})
	all := full(of(0, 1), api.Vec{})
	refuses(t, api.ErrHave, all, Mark{0, api.Vec{1000}})
	refuses(t, api.ErrMember, all, Mark{2, api.Vec{1000}})
}

// P13.2

func TestTargetOfOneMemberAlone(t *testing.T) {
	for id := range uint8(16) {
		aimsAtNothing(t, Flush{Members: of(id)})
		for n := range uint16(1000) {
			aims(t, at(api.Vec{}, id, n+1), Flush{of(id), []Mark{{id, at(api.Vec{}, id, n)}}})
		}
	}
}

// A member's own number counts one more where its own mark tells it, not where another one's does.
func TestTargetIsTheJoin(t *testing.T) {
	s := of(0, 1)
	aims(t, api.Vec{1, 1}, full(s, api.Vec{}))
	aims(t, api.Vec{3, 2}, Flush{s, []Mark{{0, api.Vec{2, 1}}, {1, api.Vec{1, 1}}}})
	aims(t, api.Vec{6, 4}, Flush{s, []Mark{{0, api.Vec{5}}, {1, api.Vec{2, 3}}}})
	aims(t, api.Vec{5, 1}, Flush{s, []Mark{{Who: 0}, {1, api.Vec{5}}}})
	aims(t, api.Vec{2, 7}, Flush{s, []Mark{{0, api.Vec{1, 7}}, {1, api.Vec{2, 3}}}})
	aims(t, api.Vec{3, 3}, Flush{s, []Mark{{0, api.Vec{1, 3}}, {1, api.Vec{3, 1}}}})
	aims(t, api.Vec{1000, 999}, Flush{s, []Mark{{0, api.Vec{999, 999}}, {1, api.Vec{999, 0}}}})
	aims(t, api.Vec{2: 3, 7: 9, 15: 4}, Flush{of(2, 7, 15), []Mark{{2, api.Vec{2: 2, 7: 9}}, {7, api.Vec{7: 1, 15: 4}}, {15, api.Vec{2: 1, 15: 2}}}})
}

func TestTargetOfEachSet(t *testing.T) {
	for s := 1; s < 1<<16; s++ {
		s := api.Set(s)
		for _, n := range []uint16{0, 6, 999} {
			f := full(s, vec(s, n))
			if v, is := Target(f); v != vec(s, n+1) || !is || !Over(f, v) || Over(f, vec(s, n)) {
				t.Errorf("%04x, %d: %v, %t", s, n, v, is)
			}
		}
		if s&(s-1) == 0 {
			continue
		}
		f := full(s, vec(s, 6))
		if v, is := Target(without(f, int(s)%len(f.Marks))); v != (api.Vec{}) || is {
			t.Errorf("%04x without one: %v, %t", s, v, is)
		}
	}
}

func TestTargetWithOneMissing(t *testing.T) {
	for _, s := range []api.Set{of(0), of(9), of(0, 1), of(3, 4, 15), every >> 8, every} {
		f := full(s, vec(s, 2))
		aims(t, vec(s, 3), f)
		for i, m := range f.Marks {
			g := without(f, i)
			aimsAtNothing(t, g)
			g = takes(t, f.Marks, g, m)
			aims(t, vec(s, 3), g)
		}
		aimsAtNothing(t, Flush{Members: s})
	}
}

// Those that are no members have the number 0 in each Target, and each member one that is above its own mark's.
func TestTargetOfMembersAndOthers(t *testing.T) {
	n := draw(21)
	for range 5000 {
		f := fullDrawn(n)
		v, is := Target(f)
		if !is {
			t.Errorf("%+v has none", f)
		}
		for _, m := range f.Marks {
			if v[m.Who] <= m.Past[m.Who] || v[m.Who] > 1000 {
				t.Errorf("%+v: %v, of %d", f, v, m.Who)
			}
		}
		for _, id := range ids(^f.Members) {
			if v[id] != 0 {
				t.Errorf("%+v: %v, of %d", f, v, id)
			}
		}
		aims(t, joined(f), f)
	}
}

func TestTargetOfAFlushThatMayNotBe(t *testing.T) {
	for _, f := range wrongFlushes() {
		aimsAtNothing(t, f)
	}
}

// P13.3

// All orders of up to five members' marks.
func TestTheTargetIsTheSameInEveryOrder(t *testing.T) {
	n := draw(13)
	for k := 1; k <= 5; k++ {
		for range 20 {
			f := fullDrawn(n)
			for len(ids(f.Members)) < k {
				f = fullDrawn(n)
			}
			s := of(ids(f.Members)[:k]...)
			marks := f.Marks[:k]
			for i := range marks {
				for _, id := range ids(^s) {
					marks[i].Past[id] = 0
				}
			}
			want := joined(Flush{s, marks})
			ends := 0
			var walk func(g Flush)
			walk = func(g Flush) {
				if len(g.Marks) == k {
					ends++
					aims(t, want, g)
					return
				}
				aimsAtNothing(t, g)
				for _, m := range marks {
					if next, e := Put(g, m); e == api.OK {
						walk(next)
					}
				}
			}
			walk(Flush{Members: s})
			if ends != [...]int{1, 1, 2, 6, 24, 120}[k] {
				t.Errorf("of %d: %d orders", k, ends)
			}
		}
	}
}

// Two put the same marks, each in an order of its own, and among them what is refused; where the view is over for both, they were told the same.
func TestTwoForWhomAViewIsOver(t *testing.T) {
	n := draw(31)
	for range 3000 {
		f := fullDrawn(n)
		fill := func() Flush {
			g, waits := Flush{Members: f.Members}, slices.Clone(f.Marks)
			shuffle(n, waits)
			for _, m := range waits {
				if n(3) == 0 {
					g, _ = Put(g, Mark{m.Who, at(m.Past, uint8(n(16)), 1000)})
				}
				g, _ = Put(g, m)
				if n(3) == 0 {
					g, _ = Put(g, Mark{Who: m.Who})
				}
			}
			return g
		}
		a, b := fill(), fill()
		if !same(a, f) || !same(b, f) {
			t.Errorf("%+v:\n%+v and\n%+v", f, a, b)
		}
		v, is := Target(a)
		if w, too := Target(b); v != w || !is || !too {
			t.Errorf("%+v: %v and %v", f, v, w)
		}
		over := 0
		for range 20 {
			x, y := v, v
			if n(2) == 0 {
				x[n(16)] += uint16(n(3)) - 1
			}
			if n(2) == 0 {
				y[n(16)] += uint16(n(3)) - 1
			}
			if Over(a, x) && Over(b, y) {
				over++
				if x != y {
					t.Errorf("%+v: over at %v and at %v", f, x, y)
				}
			}
		}
		if over == 0 {
			t.Errorf("%+v: never over for both", f)
		}
	}
}

// All of it, by the chapter's words

// knownByTheWords is when a mark's numbers may be.
func knownByTheWords(s api.Set, v api.Vec) bool {
	for id, n := range v {
		if n >= 1000 || !slices.Contains(ids(s), uint8(id)) && n != 0 {
			return false
		}
	}
	return true
}

func mayBeByTheWords(f Flush) bool {
	last := -1
	for _, m := range f.Marks {
		if int(m.Who) <= last || !slices.Contains(ids(f.Members), m.Who) || !knownByTheWords(f.Members, m.Past) {
			return false
		}
		last = int(m.Who)
	}
	return f.Members != 0
}

func putByTheWords(f Flush, m Mark) (Flush, api.Errno) {
	f = copied(f)
	if !mayBeByTheWords(f) {
		return f, api.ErrArg
	}
	if !slices.Contains(ids(f.Members), m.Who) {
		return f, api.ErrMember
	}
	for _, x := range f.Marks {
		if x.Who == m.Who {
			return f, api.ErrHave
		}
	}
	if !knownByTheWords(f.Members, m.Past) {
		return f, api.ErrArg
	}
	return Flush{f.Members, with(f.Marks, m)}, api.OK
}

func targetByTheWords(f Flush) (api.Vec, bool) {
	if !mayBeByTheWords(f) {
		return api.Vec{}, false
	}
	for _, id := range ids(f.Members) {
		if !slices.ContainsFunc(f.Marks, func(m Mark) bool { return m.Who == id }) {
			return api.Vec{}, false
		}
	}
	return joined(f), true
}

// byTheWords fails unless all calls answer as the chapter's words say.
func byTheWords(t *testing.T, f Flush, m Mark) {
	t.Helper()
	want, e := putByTheWords(f, m)
	next := answers(t, want, e, f, m)
	for _, x := range []Flush{f, next} {
		if v, is := targetByTheWords(x); is {
			aims(t, v, x)
		} else {
			aimsAtNothing(t, x)
		}
	}
}

// All flushes of up to three marks (two, of most sets) of four who know one of five things, in each set of three members; those that may not be are among them.
func TestByTheWordsOfSmallFlushes(t *testing.T) {
	var marks []Mark
	for _, who := range []uint8{0, 1, 2, 16} {
		for _, v := range []api.Vec{{}, {1, 2}, {3, 0, 999}, {1, 1000}, {1, 0, 0, 1}} {
			marks = append(marks, Mark{who, v})
		}
	}
	put := []Mark{{Who: 0}, {1, api.Vec{2, 1}}, {2, api.Vec{0, 0, 1}}, {1, api.Vec{3: 1}}, {0, api.Vec{1000}}, {Who: 16}}
	for s := range api.Set(8) {
		var walk func(l []Mark)
		walk = func(l []Mark) {
			for _, m := range put {
				byTheWords(t, Flush{s, l}, m)
			}
			if len(l) == 2 && s != 3 && s != 7 || len(l) == 3 {
				return
			}
			for _, m := range marks {
				walk(append(slices.Clone(l), m))
			}
		}
		walk(nil)
	}
}

// someVec is what somebody knows, among the members of a set.
func someVec(n func(int) int, s api.Set) api.Vec {
	most := []int{2, 5, 300, 1000}[n(4)]
	var v api.Vec
	for _, id := range ids(s) {
		v[id] = uint16(n(most))
	}
	return v
}

// fullDrawn is a flush that may be, with the marks of all.
func fullDrawn(n func(int) int) Flush {
	f := Flush{Members: api.Set(1 + n(1<<16-1))}
	if n(3) == 0 {
		f.Members = of(uint8(n(16)), uint8(n(16)), uint8(n(16)))
	}
	for _, id := range ids(f.Members) {
		f.Marks = append(f.Marks, Mark{id, someVec(n, f.Members)})
	}
	return f
}

// drawn is a flush, most often one that may be, and a mark.
func drawn(n func(int) int) (Flush, Mark) {
	f := fullDrawn(n)
	for range n(3) {
		if len(f.Marks) > 0 {
			f = without(f, n(len(f.Marks)))
		}
	}
	if len(f.Marks) > 0 && n(10) == 0 {
		i, j := n(len(f.Marks)), n(len(f.Marks))
		f.Marks[i], f.Marks[j] = f.Marks[j], f.Marks[i]
	}
	if len(f.Marks) > 0 && n(10) == 0 {
		f.Marks[n(len(f.Marks))].Past[n(16)] = uint16(998 + n(4))
	}
	if n(40) == 0 {
		f.Marks = append(f.Marks, Mark{uint8(n(18)), someVec(n, f.Members)})
	}
	if n(60) == 0 {
		f.Members = 0
	}
	m := Mark{uint8(n(17)), someVec(n, f.Members)}
	if missing := ids(f.Members &^ whose(f)); len(missing) > 0 && n(3) > 0 {
		m.Who = missing[n(len(missing))]
	}
	if n(6) == 0 {
		m.Past[n(16)] = []uint16{1, 999, 1000, 65535}[n(4)]
	}
	return f, m
}

// whose is who has a mark in a flush.
func whose(f Flush) api.Set {
	var s api.Set
	for _, m := range f.Marks {
		s |= 1 << m.Who
	}
	return s
}

func TestByTheWordsOfManyFlushes(t *testing.T) {
	n := draw(12)
	errors := map[api.Errno]int{}
	full := 0
	for range 40000 {
		f, m := drawn(n)
		byTheWords(t, f, m)
		next, e := Put(f, m)
		errors[e]++
		if _, is := Target(next); is {
			full++
		}
	}
	for _, e := range []api.Errno{api.OK, api.ErrArg, api.ErrMember, api.ErrHave} {
		if errors[e] < 1000 {
			t.Errorf("error %d came %d times", e, errors[e])
		}
	}
	if full < 1000 {
		t.Errorf("all marks were there %d times", full)
	}
}

// The rules

func TestTheSameEachTime(t *testing.T) {
	n := draw(4)
	for range 2000 {
		f, m := drawn(n)
		next, e := Put(f, m)
		v, is := Target(f)
		told := joined(f)
		over := Over(f, told)
		other, x := drawn(n)
		Put(other, x)
		Target(other)
		Over(other, told)
		if again, g := Put(f, m); !same(again, next) || g != e {
			t.Errorf("%+v, %+v: %+v, then %+v", f, m, next, again)
		}
		if again, g := Target(f); again != v || g != is {
			t.Errorf("%+v: %v, then %v", f, v, again)
		}
		if again := Over(f, told); again != over {
			t.Errorf("%+v, %v: %t, then %t", f, told, over, again)
		}
	}
}

// roomy is a flush whose list has room behind it, and the whole of that room.
func roomy(f Flush) (Flush, []Mark) {
	n := len(f.Marks)
	room := make([]Mark, n+20)
	copy(room, f.Marks)
	for i := n; i < len(room); i++ {
		room[i] = Mark{99, vec(every, 99)}
	}
	f.Marks = room[:n]
	return f, room
}

// scribble writes over a list, and over what is behind it.
func scribble(l []Mark) {
	l = l[:cap(l)]
	for i := range l {
		l[i] = Mark{77, vec(every, 77)}
	}
}

func TestNothingIsWrittenInto(t *testing.T) {
	n := draw(6)
	for range 3000 {
		f, m := drawn(n)
		f, room := roomy(f)
		before := slices.Clone(room)
		Put(f, m)
		Target(f)
		Over(f, joined(f))
		if !slices.Equal(room, before) {
			t.Errorf("%+v, %+v: written into: %+v, before %+v", f, m, room, before)
		}
	}
}

func TestAnswersAreNewMemory(t *testing.T) {
	n := draw(8)
	errors := map[api.Errno]int{}
	for range 3000 {
		f, m := drawn(n)
		f, room := roomy(f)
		before := slices.Clone(room)
		next, e := Put(f, m)
		errors[e]++
		scribble(next.Marks)
		if !slices.Equal(room, before) {
			t.Errorf("%+v, %+v, error %d: what is answered is what was handed in", f, m, e)
		}
		next, _ = Put(f, m)
		kept := copied(next)
		scribble(room)
		if !same(next, kept) {
			t.Errorf("%+v, error %d: what was handed in is kept", m, e)
		}
	}
	for _, e := range []api.Errno{api.OK, api.ErrArg, api.ErrMember, api.ErrHave} {
		if errors[e] < 20 {
			t.Errorf("error %d came %d times", e, errors[e])
		}
	}
}

// A later call writes over nothing that an earlier one answered.
func TestTwoFromOneFlush(t *testing.T) {
	s := of(0, 1, 2, 3, 4)
	mark := func(id uint8) Mark { return Mark{id, vec(s, uint16(id)+1)} }
	f := Flush{s, make([]Mark, 0, 8)}
	f = takes(t, []Mark{mark(2)}, f, mark(2))
	x := takes(t, []Mark{mark(2), mark(3)}, f, mark(3))
	y := takes(t, []Mark{mark(2), mark(4)}, f, mark(4))
	z := takes(t, []Mark{mark(0), mark(2), mark(3)}, x, mark(0))
	w := takes(t, []Mark{mark(2), mark(3), mark(4)}, x, mark(4))
	r, _ := Put(x, mark(2)) // refused, and answered anew all the same
	q := takes(t, []Mark{mark(1), mark(2), mark(3)}, r, mark(1))
	for i, p := range []struct {
		f    Flush
		want []Mark
	}{
		{f, []Mark{mark(2)}}, {x, []Mark{mark(2), mark(3)}}, {y, []Mark{mark(2), mark(4)}},
		{z, []Mark{mark(0), mark(2), mark(3)}}, {w, []Mark{mark(2), mark(3), mark(4)}},
		{r, []Mark{mark(2), mark(3)}}, {q, []Mark{mark(1), mark(2), mark(3)}},
	} {
		if !slices.Equal(p.f.Marks, p.want) {
			t.Errorf("number %d: %+v", i, p.f)
		}
	}
}

func TestEmptyListsAreAsNone(t *testing.T) {
	for _, s := range []api.Set{0, of(3), of(3, 4), every} {
		for _, l := range [][]Mark{nil, {}, make([]Mark, 0, 4)} {
			for _, m := range []Mark{{Who: 3}, {3, api.Vec{3: 7}}, {3, api.Vec{3: 1000}}, {Who: 5}, {Who: 16}, {}} {
				byTheWords(t, Flush{s, l}, m)
			}
		}
	}
}

// Lists that are far too long are seen to be so, and answered as they are.
func TestLongListsEnd(t *testing.T) {
	long := make([]Mark, 1<<18)
	for i := range long {
		long[i].Who = uint8(i >> 14) // they rise, but for those that are alike
	}
	falling := slices.Clone(long)
	slices.Reverse(falling)
	for _, l := range [][]Mark{long, falling} {
		f := Flush{every, l}
		if v, is := Target(f); v != (api.Vec{}) || is || Over(f, vec(every, 1)) {
			t.Errorf("%v, %t", v, is)
		}
		next, e := Put(f, Mark{Who: 1})
		if !same(next, f) || e != api.ErrArg {
			t.Errorf("%d marks, error %d", len(next.Marks), e)
		}
	}
}

// The chapter's examples

func TestExample(t *testing.T) {
	f := Flush{Members: of(0, 1)}
	f, e := Put(f, Mark{0, api.Vec{2, 1}})
	if e != api.OK {
		t.Errorf("error %d", e)
	}
	f, e = Put(f, Mark{1, api.Vec{1, 1}})
	if e != api.OK {
		t.Errorf("error %d", e)
	}
	aims(t, api.Vec{3, 2}, f)
}
