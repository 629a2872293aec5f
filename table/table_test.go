package table

import (
	"math"
	"slices"
	"strconv"
	"strings"
	"testing"

	"chantry/api"
	"chantry/count"
	"chantry/vote"
)

// aVote is a vote of who, of a kind, for a body.
type aVote struct {
	kind int
	who  uint8
	body string
}

// answer is all that Take answers.
type answer struct {
	next Table
	out  []vote.Out
	body string
	is   bool
	e    api.Errno
}

func take(x Table, n api.Name, v aVote) answer {
	var a answer
	a.next, a.out, a.body, a.is, a.e = Take(x, n, v.kind, v.who, v.body)
	return a
}

func sameCase(a, b vote.Case) bool {
	return a.Echoed == b.Echoed && a.Readied == b.Readied && a.Done == b.Done && slices.Equal(a.Echoes, b.Echoes) && slices.Equal(a.Readies, b.Readies)
}

func sameOpen(a, b []Open) bool {
	return slices.EqualFunc(a, b, func(a, b Open) bool { return a.From == b.From && a.Seq == b.Seq && sameCase(a.Case, b.Case) })
}

func sameTable(a, b Table) bool {
	return a.View == b.View && a.Members == b.Members && a.Base == b.Base && sameOpen(a.Open, b.Open)
}

func sameAnswer(a, b answer) bool {
	return sameTable(a.next, b.next) && slices.Equal(a.out, b.out) && a.body == b.body && a.is == b.is && a.e == b.e
}

// copied holds a table against changes to its lists, and to those of its cases.
func copied(x Table) Table {
	var l []Open
	for _, o := range x.Open {
		o.Case.Echoes = append([]vote.Ballot(nil), o.Case.Echoes...)
		o.Case.Readies = append([]vote.Ballot(nil), o.Case.Readies...)
		l = append(l, o)
	}
	x.Open = l
	return x
}

// answers fails unless Take answers want, and leaves x as it is.
func answers(t *testing.T, want answer, x Table, n api.Name, v aVote) Table {
	t.Helper()
	before := copied(x)
	a := take(x, n, v)
	if !sameAnswer(a, want) {
		t.Errorf("%+v, %+v, %d by %d: %.20q:\n%+v, not\n%+v", before, n, v.kind, v.who, v.body, a, want)
	}
	if !sameTable(x, before) {
		t.Errorf("%+v was changed to %+v", before, x)
	}
	return a.next
}

// refuses fails unless Take answers the error, and x as it is beside it.
func refuses(t *testing.T, e api.Errno, x Table, n api.Name, v aVote) {
	t.Helper()
	answers(t, answer{next: x, e: e}, x, n, v)
}

// isRight fails unless Right answers so, and leaves x as it is; of one that may not be Take is to answer ErrArg.
func isRight(t *testing.T, want bool, x Table, what string) {
	t.Helper()
	before := copied(x)
	if is := Right(x); is != want {
		t.Errorf("%s: %t: %+v", what, is, x)
	}
	if !sameTable(x, before) {
		t.Errorf("%s: %+v was changed to %+v", what, before, x)
	}
	if !want {
		refuses(t, api.ErrArg, x, api.Name{View: x.View}, aVote{vote.Echo, 0, "a"})
	}
}

func set(ids ...uint8) api.Set {
	s, _ := count.Of(ids)
	return s
}

func ballot(body string, ids ...uint8) vote.Ballot { return vote.Ballot{Body: body, Who: set(ids...)} }

func ballots(l ...vote.Ballot) []vote.Ballot { return l }

// done is a broadcast of "d" that four members have done, by readies of 0, 1 and 2.
func done(from uint8, seq int) Open {
	return Open{from, seq, vote.Case{Readied: true, Done: true, Readies: ballots(ballot("d", 0, 1, 2))}}
}

// nearly is one that a Ready of "d" by 2 makes done.
func nearly(from uint8, seq int) Open {
	return Open{from, seq, vote.Case{Readied: true, Readies: ballots(ballot("d", 0, 1))}}
}

// echoed is one that goes on: member 3 echoed "e".
func echoed(from uint8, seq int) Open {
	return Open{from, seq, vote.Case{Echoes: ballots(ballot("e", 3))}}
}

// lastReady is the vote that makes done what is nearly so.
var lastReady = aVote{vote.Ready, 2, "d"}

// four is a table of view 2 and members 0 to 3, with what is open.
func four(base api.Vec, l ...Open) Table { return Table{View: 2, Members: 15, Base: base, Open: l} }

func name(from uint8, seq int) api.Name { return api.Name{View: 2, From: from, Seq: seq} }

// draw gives numbers that are the same in every run.
func draw() func(below int) int {
	s := uint64(88172645463325252)
	return func(below int) int {
		s ^= s << 13
		s ^= s >> 7
		s ^= s << 17
		return int(s % uint64(below))
	}
}

func TestMost(t *testing.T) {
	if Most != 8 {
		t.Errorf("%d", Most)
	}
	var n int = Most
	var small uint8 = Most // the constant is of no type, as in the document
	if n != 8 || small != 8 {
		t.Errorf("%d, %d", n, small)
	}
}

// P8.1

func TestRightEmpty(t *testing.T) {
	for _, members := range []api.Set{0, 1, 15, 0x8000, 0xffff} {
		for _, l := range [][]Open{nil, {}, make([]Open, 0, 4)} {
			isRight(t, true, Table{Members: members, Open: l}, "nothing open")
		}
	}
}

func TestRightView(t *testing.T) {
	for view, want := range map[int]bool{-1: false, 0: true, 1: true, 999: true, 1000: true, 1001: false, math.MinInt: false, math.MaxInt: false, 1 << 32: false, 1<<32 + 5: false} {
		isRight(t, want, Table{View: view, Members: 15}, "view "+strconv.Itoa(view))
		isRight(t, want, Table{View: view, Members: 15, Open: []Open{echoed(1, 0)}}, "view "+strconv.Itoa(view))
	}
}

func TestRightBaseOfMembers(t *testing.T) {
	for id := range uint8(16) {
		for base, want := range map[uint16]bool{0: true, 1: true, 999: true, 1000: true, 1001: false, 1002: false, 65535: false} {
			x := Table{Members: set(id)}
			x.Base[id] = base
			isRight(t, want, x, "a member's base")
			x.Members = 0xffff
			isRight(t, want, x, "a member's base among all")
		}
	}
}

func TestRightBaseOfOthers(t *testing.T) {
	for id := range uint8(16) {
		for base, want := range map[uint16]bool{0: true, 1: false, 2: false, 256: false, 1000: false, 1001: false, 65535: false} {
			x := Table{Members: 0xffff &^ set(id)}
			x.Base[id] = base
			isRight(t, want, x, "the base of one who is no member")
			x.Members = 0
			isRight(t, want, x, "a base among none")
		}
	}
	isRight(t, true, Table{Members: 5, Base: api.Vec{1000, 0, 1000}}, "all members' base")
	isRight(t, false, Table{Members: 5, Base: api.Vec{1000, 0, 1001}}, "the second member's base")
}

func TestRightOrderByFrom(t *testing.T) {
	isRight(t, true, four(api.Vec{}, echoed(0, 0), echoed(1, 0), echoed(3, 0)), "rising")
	isRight(t, true, four(api.Vec{}, echoed(0, 7), echoed(1, 6), echoed(3, 5)), "rising, though Seq falls")
	isRight(t, false, four(api.Vec{}, echoed(1, 0), echoed(0, 0)), "falling")
	isRight(t, false, four(api.Vec{}, echoed(1, 0), echoed(0, 1)), "falling, though Seq rises")
	isRight(t, false, four(api.Vec{}, echoed(0, 0), echoed(3, 0), echoed(2, 0)), "falling at the end")
	isRight(t, false, four(api.Vec{}, echoed(0, 0), echoed(1, 0), echoed(0, 1)), "going back")
}

func TestRightOrderBySeq(t *testing.T) {
	isRight(t, true, four(api.Vec{}, echoed(2, 0), echoed(2, 1), echoed(2, 7)), "rising")
	isRight(t, true, four(api.Vec{}, echoed(1, 6), echoed(2, 1), echoed(2, 7), echoed(3, 0)), "rising of one")
	isRight(t, false, four(api.Vec{}, echoed(2, 1), echoed(2, 0)), "falling")
	isRight(t, false, four(api.Vec{}, echoed(2, 0), echoed(2, 2), echoed(2, 1)), "falling at the end")
	isRight(t, false, four(api.Vec{}, echoed(2, 0), echoed(2, 2), echoed(2, 1), echoed(3, 0)), "falling in the middle")
}

func TestRightTwoAlike(t *testing.T) {
	for _, o := range []Open{echoed(0, 0), echoed(2, 3), done(2, 3), {From: 1}, {From: 3, Seq: 7}} {
		isRight(t, true, four(api.Vec{}, o), "one")
		isRight(t, false, four(api.Vec{}, o, o), "two alike")
	}
	isRight(t, false, four(api.Vec{}, echoed(2, 3), done(2, 3)), "two of one name, unlike else")
	isRight(t, false, four(api.Vec{}, echoed(0, 0), echoed(1, 1), echoed(1, 1)), "two alike at the end")
}

func TestRightFrom(t *testing.T) {
	for id := range uint8(16) {
		isRight(t, true, Table{Members: set(id), Open: []Open{echoed(id, 0)}}, "of the only member")
		isRight(t, true, Table{Members: 0xffff, Open: []Open{echoed(id, 0)}}, "of one of all")
		isRight(t, false, Table{Members: 0xffff &^ set(id), Open: []Open{echoed(id, 0)}}, "of one who is no member")
		isRight(t, false, Table{Members: 0, Open: []Open{echoed(id, 0)}}, "among none")
	}
	for _, id := range []uint8{16, 17, 31, 32, 128, 255} {
		isRight(t, false, Table{Members: 0xffff, Open: []Open{echoed(id, 0)}}, "of one who can't be a member")
		isRight(t, false, Table{Members: 0xffff, Open: []Open{echoed(0, 0), echoed(15, 3), echoed(id, 0)}}, "of one who can't be a member, last")
	}
}

func TestRightSeq(t *testing.T) {
	for _, base := range []int{0, 1, 5, 500, 991, 992, 993, 999, 1000} {
		for seq := base - 3; seq < base+13; seq++ {
			want := seq >= base && seq < base+8 && seq < 1000
			var vec api.Vec
			vec[1] = uint16(base)
			isRight(t, want, four(vec, echoed(1, seq)), "base "+strconv.Itoa(base)+", seq "+strconv.Itoa(seq))
			isRight(t, want, four(vec, echoed(0, 3), echoed(1, seq), echoed(2, 4)), "base "+strconv.Itoa(base)+", seq "+strconv.Itoa(seq)+", among others")
		}
		for _, seq := range []int{math.MinInt, math.MaxInt, base + 1<<16, base + 1<<32, base - 1<<32, -1} {
			isRight(t, false, four(api.Vec{0, uint16(base)}, echoed(1, seq)), "far off")
		}
	}
}

func TestRightSeqByOwnBase(t *testing.T) {
	isRight(t, true, four(api.Vec{10, 0, 20, 3}, echoed(0, 10), echoed(0, 17), echoed(1, 0), echoed(1, 7), echoed(2, 27), echoed(3, 3)), "each by its own")
	isRight(t, false, four(api.Vec{10, 0, 20, 3}, echoed(1, 10)), "by another one's")
	isRight(t, false, four(api.Vec{10, 0, 20, 3}, echoed(0, 10), echoed(2, 17)), "the second by the first one's")
}

func TestRightAllOpen(t *testing.T) {
	x := Table{Members: 0xffff}
	for id := range uint8(16) {
		x.Base[id] = uint16(id) * 50
		for i := range Most {
			x.Open = append(x.Open, echoed(id, int(id)*50+i))
		}
	}
	isRight(t, true, x, "all that may be open")
	for i := range x.Open {
		y := copied(x)
		y.Open[i].Case.Echoes = ballots(ballot("a"), ballot("a"))
		isRight(t, false, y, "all open, one unsound")
	}
}

func TestRightDone(t *testing.T) {
	isRight(t, false, four(api.Vec{}, done(1, 0)), "done at 0")
	isRight(t, false, four(api.Vec{0, 6}, done(1, 6)), "done at base")
	isRight(t, false, four(api.Vec{0, 999}, done(1, 999)), "done at the last base")
	isRight(t, false, four(api.Vec{}, Open{From: 1, Case: vote.Case{Done: true}}), "done without a vote")
	isRight(t, false, four(api.Vec{0, 0, 6}, echoed(0, 0), echoed(1, 0), done(2, 6)), "done at base of the last")
	isRight(t, true, four(api.Vec{0, 6}, done(1, 7)), "done behind base")
	isRight(t, true, four(api.Vec{0, 6}, echoed(1, 6), done(1, 7), done(1, 13)), "done behind one that is not")
	isRight(t, true, four(api.Vec{0, 6}, done(0, 6), echoed(1, 6)), "done at another one's base")
	isRight(t, true, four(api.Vec{}, Open{From: 1, Case: vote.Case{Echoed: true, Readied: true}}), "echoed and readied at base")
}

func TestRightBallots(t *testing.T) {
	long := strings.Repeat("a", 3000)
	for _, c := range []struct {
		want bool
		l    []vote.Ballot
		what string
	}{
		{true, nil, "none"},
		{true, ballots(), "an empty list"},
		{true, ballots(ballot("")), "an empty body of nobody"},
		{true, ballots(ballot("b", 0), ballot("a", 1, 2), ballot("", 3)), "three bodies"},
		{true, ballots(ballot("b"), ballot("a"), ballot("c")), "three bodies of nobody"},
		{true, ballots(ballot("a", 0), ballot("a\x00", 1), ballot("A", 2), ballot(" a", 3)), "bodies that are nearly alike"},
		{true, ballots(ballot("\xff", 0), ballot("\xfe", 1)), "bytes that are no letters"},
		{true, ballots(ballot("a", 4, 15)), "votes of those who are no members"},
		{true, ballots(ballot(long, 1), ballot(long[1:], 2)), "long bodies"},
		{true, ballots(vote.Ballot{Body: "a", Who: 0x5555}, vote.Ballot{Body: "b", Who: 0xaaaa}), "all members"},
		{false, ballots(ballot("a", 0), ballot("a", 1)), "one body twice"},
		{false, ballots(ballot("a"), ballot("a")), "one body twice, of nobody"},
		{false, ballots(ballot("", 0), ballot("", 1)), "the empty body twice"},
		{false, ballots(ballot("a", 0), ballot("b", 1), ballot("a", 2)), "one body twice, with another between"},
		{false, ballots(ballot("c", 0), ballot("b", 1), ballot("a", 2), ballot("b", 3)), "one body twice at the end"},
		{false, ballots(ballot(long, 1), ballot(long, 2)), "one long body twice"},
		{false, ballots(ballot("a", 0), ballot("b", 0)), "a member in common"},
		{false, ballots(ballot("a", 0, 1), ballot("b", 2, 1)), "a member in common among others"},
		{false, ballots(ballot("a", 0), ballot("b", 1), ballot("c", 0)), "a member in common, with another between"},
		{false, ballots(ballot("a", 1), ballot("b"), ballot("c", 0, 1, 2)), "a member in common at the end"},
		{false, ballots(ballot("a", 15), ballot("b", 15)), "one in common who is no member"},
		{false, ballots(vote.Ballot{Body: "a", Who: 0xffff}, vote.Ballot{Body: "b", Who: 0xffff}), "all in common"},
		{false, ballots(ballot("a", 0), ballot("a", 0)), "both"},
	} {
		isRight(t, c.want, four(api.Vec{}, Open{From: 1, Case: vote.Case{Echoes: c.l}}), "echoes: "+c.what)
		isRight(t, c.want, four(api.Vec{}, Open{From: 1, Case: vote.Case{Readies: c.l}}), "readies: "+c.what)
		isRight(t, c.want, four(api.Vec{}, Open{From: 1, Case: vote.Case{Echoes: c.l, Readies: c.l}}), "both: "+c.what)
		isRight(t, c.want, four(api.Vec{}, echoed(0, 0), echoed(1, 0), Open{2, 3, vote.Case{Done: true, Readies: c.l}}), "of the last one: "+c.what)
		isRight(t, c.want, four(api.Vec{}, Open{0, 3, vote.Case{Echoes: c.l}}, echoed(1, 0), echoed(2, 0)), "of the first one: "+c.what)
	}
}

func TestRightListsAreApart(t *testing.T) {
	isRight(t, true, four(api.Vec{}, Open{From: 1, Case: vote.Case{Echoes: ballots(ballot("a", 0, 1)), Readies: ballots(ballot("a", 0, 1))}}), "one ballot in both lists")
	isRight(t, true, four(api.Vec{}, Open{From: 1, Case: vote.Case{Echoes: ballots(ballot("a", 0, 1)), Readies: ballots(ballot("b", 1))}}), "a member of two bodies in two lists")
	isRight(t, true, four(api.Vec{}, echoed(1, 0), echoed(1, 1), echoed(2, 0)), "one ballot in several broadcasts")
}

func TestRightOfManyBallotsEndsSoon(t *testing.T) {
	var l []vote.Ballot
	for i := range 200000 {
		l = append(l, ballot(strconv.Itoa(i)))
	}
	x := four(api.Vec{}, Open{From: 1, Case: vote.Case{Echoes: l}})
	isRight(t, true, x, "many bodies")
	l[len(l)-1].Body = "7"
	isRight(t, false, x, "many bodies, one of them twice")
}

// may is Right by the chapter's words, each held against all others.
func may(x Table) bool {
	if x.View < 0 || 1000 < x.View {
		return false
	}
	in := func(id int) bool { return id < 16 && x.Members>>id&1 == 1 }
	for id, base := range x.Base {
		if base > 1000 || !in(id) && base != 0 {
			return false
		}
	}
	for i, o := range x.Open {
		for _, p := range x.Open[:i] {
			if p.From > o.From || p.From == o.From && p.Seq >= o.Seq {
				return false
			}
		}
		if !in(int(o.From)) || o.Seq < int(x.Base[o.From]) || o.Seq > int(x.Base[o.From])+7 || o.Seq > 999 {
			return false
		}
		if o.Seq == int(x.Base[o.From]) && o.Case.Done {
			return false
		}
		for _, l := range [][]vote.Ballot{o.Case.Echoes, o.Case.Readies} {
			for i, a := range l {
				for _, b := range l[:i] {
					if a.Body == b.Body || a.Who&b.Who != 0 {
						return false
					}
				}
			}
		}
	}
	return true
}

// anyBallots are mostly sound.
func anyBallots(next func(int) int) []vote.Ballot {
	var l []vote.Ballot
	var who api.Set
	for i := range next(4) {
		b := vote.Ballot{Body: strconv.Itoa(i), Who: api.Set(next(1<<16)) &^ who}
		if next(40) == 0 {
			b.Body = "0"
		}
		if next(40) == 0 {
			b.Who = api.Set(next(16))
		}
		who |= b.Who
		l = append(l, b)
	}
	return l
}

// anyTable is often one that may be.
func anyTable(next func(int) int) Table {
	x := Table{View: next(1001), Members: api.Set(next(1 << 16))}
	if next(40) == 0 {
		x.View = next(3)*1001 - 1
	}
	for id := range uint8(16) {
		if count.Has(x.Members, id) || next(300) == 0 {
			x.Base[id] = uint16(max(0, next(1020)-16))
		}
		for i := range Most + 1 {
			o := Open{id, int(x.Base[id]) + i, vote.Case{Echoed: next(2) == 0, Readied: next(2) == 0}}
			if next(20) > 0 || !count.Has(x.Members, id) && next(30) > 0 || (i == Most || o.Seq >= 1000) && next(30) > 0 {
				continue
			}
			o.Case.Done = next(3) == 0 && (i > 0 || next(20) == 0)
			o.Case.Echoes, o.Case.Readies = anyBallots(next), anyBallots(next)
			x.Open = append(x.Open, o)
		}
	}
	if n := len(x.Open); n > 1 && next(20) == 0 {
		i, j := next(n), next(n)
		x.Open[i], x.Open[j] = x.Open[j], x.Open[i]
	}
	return x
}

func TestRightAsTheWordsSay(t *testing.T) {
	next := draw()
	var yes, no int
	for range 20000 {
		x := anyTable(next)
		want := may(x)
		if Right(x) != want {
			t.Fatalf("%+v: not %t", x, want)
		}
		if want {
			yes++
		} else {
			no++
		}
	}
	if yes < 3000 || no < 3000 {
		t.Errorf("too few: %d that may be, %d that may not", yes, no)
	}
}

// P8.2: what may not be

// wrong are tables of view 2 that may not be, each for one reason alone.
func wrong() []Table {
	outside := four(api.Vec{})
	outside.Base[9] = 1
	return []Table{
		outside,
		four(api.Vec{1001}),
		four(api.Vec{}, echoed(1, 0), echoed(0, 0)),
		four(api.Vec{}, echoed(1, 3), echoed(1, 2)),
		four(api.Vec{}, echoed(1, 3), echoed(1, 3)),
		four(api.Vec{}, echoed(4, 0)),
		four(api.Vec{}, echoed(16, 0)),
		four(api.Vec{5}, echoed(0, 4)),
		four(api.Vec{5}, echoed(0, 13)),
		four(api.Vec{996}, echoed(0, 1000)),
		four(api.Vec{}, done(1, 0)),
		four(api.Vec{}, Open{From: 1, Case: vote.Case{Echoes: ballots(ballot("a", 0), ballot("a", 1))}}),
		four(api.Vec{}, Open{From: 1, Case: vote.Case{Readies: ballots(ballot("a", 0), ballot("b", 0))}}),
	}
}

func TestTakeOfWhatMayNotBe(t *testing.T) {
	for _, x := range wrong() {
		isRight(t, false, x, "wrong")
		for _, n := range []api.Name{name(0, 0), name(2, 3), name(1, 0), {View: 3}, {View: -1}, name(9, 0), name(255, 0), name(0, -1), name(0, 1000)} {
			refuses(t, api.ErrArg, x, n, aVote{vote.Ready, 0, "a"})
			refuses(t, api.ErrArg, x, n, aVote{0, 9, "a"})
		}
	}
	for _, view := range []int{-1, 1001, math.MinInt, math.MaxInt} {
		refuses(t, api.ErrArg, Table{View: view, Members: 15}, api.Name{View: view}, aVote{vote.Send, 0, "a"})
	}
}

func TestTakeOfAnotherView(t *testing.T) {
	for _, view := range []int{0, 1, 2, 999, 1000} {
		for _, of := range []int{-1, 0, 1, 2, 3, 999, 1000, 1001, math.MinInt, math.MaxInt, view + 1<<32, view - 1<<32} {
			x := Table{View: view, Members: 15, Open: []Open{echoed(1, 0)}}
			n, v := api.Name{View: of, From: 1}, aVote{vote.Echo, 0, "e"}
			if of != view {
				refuses(t, api.ErrView, x, n, v)
				continue
			}
			want := copied(x)
			want.Open[0].Case.Echoes[0].Who = set(0, 3)
			answers(t, answer{next: want}, x, n, v)
		}
	}
}

func TestTakeFromOneWhoIsNoMember(t *testing.T) {
	for _, members := range []api.Set{0, 1, 15, 0x5555, 0x7fff} {
		x := Table{View: 2, Members: members}
		for id := range 256 {
			n := name(uint8(id), 0)
			if slices.Contains(count.List(members), n.From) {
				if a := take(x, n, aVote{vote.Send, n.From, "a"}); a.e != api.OK {
					t.Errorf("of %d in %#x: %d", id, members, a.e)
				}
				continue
			}
			refuses(t, api.ErrMember, x, n, aVote{vote.Send, n.From, "a"})
			refuses(t, api.ErrMember, x, n, aVote{vote.Echo, 0, "a"})
		}
	}
	for id := range 256 { // of all members none is missing but those that can't be
		a := take(Table{View: 2, Members: 0xffff}, name(uint8(id), 0), aVote{vote.Echo, 0, "a"})
		if (a.e == api.OK) != (id < 16) || id >= 16 && a.e != api.ErrMember {
			t.Errorf("of %d: %d", id, a.e)
		}
	}
}

func TestTakeSeq(t *testing.T) {
	for _, base := range []int{0, 1, 7, 8, 500, 991, 992, 993, 999, 1000} {
		for _, seq := range []int{math.MinInt, -1 << 32, -65536, -1000, -2, -1, 0, base - 2, base - 1, base, base + 1, base + 6, base + 7, base + 8, base + 9, base + 16, 998, 999, 1000, 1001, 65536, base + 1<<16, base + 1<<32, math.MaxInt} {
			x := four(api.Vec{0, uint16(base), 300})
			n, v := name(1, seq), aVote{vote.Echo, 3, "e"}
			switch {
			case seq < 0 || seq >= 1000:
				refuses(t, api.ErrArg, x, n, v)
			case seq < base:
				refuses(t, api.ErrOld, x, n, v)
			case seq >= base+8:
				refuses(t, api.ErrFull, x, n, v)
			default:
				want := x
				want.Open = []Open{echoed(1, seq)}
				answers(t, answer{next: want}, x, n, v)
			}
		}
	}
}

func TestSeqIsHeldAgainstItsOwnBase(t *testing.T) {
	x := four(api.Vec{0, 20, 1000, 100})
	v := aVote{vote.Echo, 3, "e"}
	for from, seq := range map[uint8]int{0: 8, 1: 28, 3: 108} {
		refuses(t, api.ErrFull, x, name(from, seq), v)
		want := x
		want.Open = []Open{echoed(from, seq-1)}
		answers(t, answer{next: want}, x, name(from, seq-1), v)
	}
	for from, seq := range map[uint8]int{1: 19, 2: 999, 3: 99} {
		refuses(t, api.ErrOld, x, name(from, seq), v)
	}
	refuses(t, api.ErrArg, x, name(2, 1000), v)
}

func TestFirstError(t *testing.T) {
	right := four(api.Vec{20}, echoed(0, 20))
	bad := copied(right)
	bad.Base[9] = 1
	good, wrongVote := aVote{vote.Echo, 1, "e"}, aVote{9, 9, strings.Repeat("a", 1001)}
	for _, v := range []aVote{good, wrongVote} {
		for _, n := range []api.Name{{View: 3, From: 9, Seq: -1}, name(9, -1), name(0, -1), name(0, 1000), name(0, 19), name(0, 28), name(0, 20)} {
			refuses(t, api.ErrArg, bad, n, v)
		}
		for _, seq := range []int{-1, 0, 19, 20, 28, 999, 1000} {
			for _, from := range []uint8{0, 1, 4, 16, 255} {
				refuses(t, api.ErrView, right, api.Name{View: 3, From: from, Seq: seq}, v)
			}
			for _, from := range []uint8{4, 16, 255} {
				refuses(t, api.ErrMember, right, name(from, seq), v)
			}
		}
		refuses(t, api.ErrArg, right, name(0, -1), v)   // below Base too
		refuses(t, api.ErrArg, right, name(0, 1000), v) // beyond Most too
		refuses(t, api.ErrOld, right, name(0, 19), v)
		refuses(t, api.ErrFull, right, name(0, 28), v)
		refuses(t, api.ErrFull, right, name(0, 999), v)
	}
	refuses(t, api.ErrArg, right, name(0, 20), wrongVote)
	answers(t, answer{next: four(api.Vec{20}, Open{From: 0, Seq: 20, Case: vote.Case{Echoes: ballots(ballot("e", 1, 3))}})}, right, name(0, 20), good)
	// At the end of a view what is beyond Most is no number that may be, and what is below Base is old.
	over := four(api.Vec{1000})
	refuses(t, api.ErrArg, over, name(0, 1000), good)
	refuses(t, api.ErrArg, over, name(0, 1008), good)
	refuses(t, api.ErrOld, over, name(0, 999), good)
}

func TestErrorsOfTheVote(t *testing.T) {
	c := vote.Case{Echoed: true, Echoes: ballots(ballot("a", 0), ballot("b", 2)), Readies: ballots(ballot("a", 3))}
	x := four(api.Vec{0, 4}, echoed(0, 2), Open{1, 5, c}, done(1, 6), echoed(3, 0))
	for _, seq := range []int{4, 5, 6, 11} { // some are open, some not
		n := name(1, seq)
		for _, kind := range []int{0, -1, 4, 255, math.MinInt, math.MaxInt} {
			refuses(t, api.ErrArg, x, n, aVote{kind, 1, "a"})
		}
		for _, kind := range []int{vote.Send, vote.Echo, vote.Ready} {
			refuses(t, api.ErrArg, x, n, aVote{kind, 1, strings.Repeat("a", 1001)})
			for _, who := range []uint8{4, 9, 15, 16, 255} {
				refuses(t, api.ErrMember, x, n, aVote{kind, who, "a"})
			}
		}
		refuses(t, api.ErrMember, x, n, aVote{vote.Send, 0, "a"})
	}
	for _, v := range []aVote{{vote.Send, 1, "a"}, {vote.Echo, 0, "a"}, {vote.Echo, 0, "b"}, {vote.Echo, 2, "c"}, {vote.Ready, 3, "a"}, {vote.Ready, 3, "c"}} {
		refuses(t, api.ErrOld, x, name(1, 5), v)
	}
	refuses(t, api.ErrOld, x, name(1, 6), lastReady)
	refuses(t, api.ErrOld, x, name(0, 2), aVote{vote.Echo, 3, "e"})
}

// P8.2: what is taken

func TestANameThatIsNotOpen(t *testing.T) {
	x := four(api.Vec{})
	for _, seq := range []int{0, 3, 7} {
		n := name(1, seq)
		answers(t, answer{next: four(api.Vec{}, Open{1, seq, vote.Case{Echoed: true}}), out: []vote.Out{{Kind: vote.Echo, Body: "x"}}}, x, n, aVote{vote.Send, 1, "x"})
		answers(t, answer{next: four(api.Vec{}, Open{1, seq, vote.Case{Echoes: ballots(ballot("x", 2))}})}, x, n, aVote{vote.Echo, 2, "x"})
		answers(t, answer{next: four(api.Vec{}, Open{1, seq, vote.Case{Readies: ballots(ballot("", 2))}})}, x, n, aVote{vote.Ready, 2, ""})
	}
}

func TestANameThatIsOpen(t *testing.T) {
	two := vote.Case{Echoes: ballots(ballot("x", 0, 3))}
	x := four(api.Vec{}, echoed(0, 1), Open{1, 2, two}, done(1, 3), echoed(2, 2))
	n := name(1, 2)
	want := func(c vote.Case) Table { return four(api.Vec{}, echoed(0, 1), Open{1, 2, c}, done(1, 3), echoed(2, 2)) }
	answers(t, answer{next: want(vote.Case{Echoed: true, Echoes: ballots(ballot("x", 0, 3))}), out: []vote.Out{{Kind: vote.Echo, Body: "y"}}}, x, n, aVote{vote.Send, 1, "y"})
	answers(t, answer{next: want(vote.Case{Readied: true, Echoes: ballots(ballot("x", 0, 2, 3))}), out: []vote.Out{{Kind: vote.Ready, Body: "x"}}}, x, n, aVote{vote.Echo, 2, "x"})
	answers(t, answer{next: want(vote.Case{Echoes: ballots(ballot("x", 0, 3), ballot("y", 2))})}, x, n, aVote{vote.Echo, 2, "y"})
	answers(t, answer{next: want(vote.Case{Echoes: ballots(ballot("x", 0, 3)), Readies: ballots(ballot("x", 1))})}, x, n, aVote{vote.Ready, 1, "x"})
}

func TestOthersAreNotTakenForIt(t *testing.T) {
	x := four(api.Vec{0, 1}, nearly(0, 2), nearly(1, 1), nearly(1, 3), nearly(2, 2))
	want := four(api.Vec{0, 1}, nearly(0, 2), nearly(1, 1), Open{1, 2, vote.Case{Readies: ballots(ballot("d", 2))}}, nearly(1, 3), nearly(2, 2))
	answers(t, answer{next: want}, x, name(1, 2), lastReady)
}

func TestWhereItIsPut(t *testing.T) {
	all := []Open{echoed(0, 1), echoed(0, 7), echoed(1, 0), echoed(1, 3), echoed(1, 7), echoed(3, 2)}
	for i, o := range all {
		without := slices.Delete(slices.Clone(all), i, i+1)
		answers(t, answer{next: four(api.Vec{}, all...)}, four(api.Vec{}, without...), name(o.From, o.Seq), aVote{vote.Echo, 3, "e"})
	}
	next := draw()
	for range 200 { // in any order they come to stand alike
		l := slices.Clone(all)
		for i := range l {
			j := next(i + 1)
			l[i], l[j] = l[j], l[i]
		}
		x := four(api.Vec{})
		for _, o := range l {
			x = take(x, name(o.From, o.Seq), aVote{vote.Echo, 3, "e"}).next
		}
		if !sameTable(x, four(api.Vec{}, all...)) {
			t.Fatalf("%+v", x)
		}
	}
}

func delivered(x Table) answer { return answer{next: x, body: "d", is: true} }

func TestDoneAtBase(t *testing.T) {
	for _, base := range []uint16{0, 1, 5, 500, 990} {
		b, vec := int(base), func(more int) api.Vec { return api.Vec{3, base + uint16(more), 7, 0} }
		for _, c := range []struct {
			up   int
			l    []Open
			rest []Open
		}{
			{1, nil, nil},
			{1, []Open{echoed(1, b+1)}, []Open{echoed(1, b+1)}},
			{2, []Open{done(1, b+1)}, nil},
			{3, []Open{done(1, b+1), done(1, b+2)}, nil},
			{8, []Open{done(1, b+1), done(1, b+2), done(1, b+3), done(1, b+4), done(1, b+5), done(1, b+6), done(1, b+7)}, nil},
			{2, []Open{done(1, b+1), echoed(1, b+2)}, []Open{echoed(1, b+2)}},
			{2, []Open{done(1, b+1), nearly(1, b+2), done(1, b+3)}, []Open{nearly(1, b+2), done(1, b+3)}},
			{2, []Open{done(1, b+1), done(1, b+3), done(1, b+4)}, []Open{done(1, b+3), done(1, b+4)}},
			{1, []Open{done(1, b+2), done(1, b+7)}, []Open{done(1, b+2), done(1, b+7)}},
		} {
			before, after := []Open{echoed(0, 3), done(0, 4)}, []Open{done(2, 8), echoed(3, 2)}
			x := four(vec(0), slices.Concat(before, []Open{nearly(1, b)}, c.l, after)...)
			want := four(vec(c.up), slices.Concat(before, c.rest, after)...)
			isRight(t, true, x, "ahead of it")
			isRight(t, true, want, "behind it")
			answers(t, delivered(want), x, name(1, b), lastReady)
			// alone in the table
			answers(t, delivered(four(vec(c.up), c.rest...)), four(vec(0), append([]Open{nearly(1, b)}, c.l...)...), name(1, b), lastReady)
		}
	}
}

func TestDoneByOneVote(t *testing.T) {
	// A name that is not open, of a member that is alone, comes and goes at once.
	x := Table{View: 2, Members: 4, Base: api.Vec{0, 0, 5}, Open: []Open{{2, 6, vote.Case{Done: true}}, {2, 8, vote.Case{Done: true}}}}
	want := Table{View: 2, Members: 4, Base: api.Vec{0, 0, 7}, Open: []Open{{2, 8, vote.Case{Done: true}}}}
	x = answers(t, answer{next: want, out: []vote.Out{{Kind: vote.Ready, Body: "x"}}, body: "x", is: true}, x, name(2, 5), aVote{vote.Ready, 2, "x"})
	want = Table{View: 2, Members: 4, Base: api.Vec{0, 0, 9}}
	answers(t, answer{next: want, out: []vote.Out{{Kind: vote.Ready, Body: ""}}, is: true}, x, name(2, 7), aVote{vote.Ready, 2, ""})
}

func TestDoneBehindBase(t *testing.T) {
	for _, seq := range []int{6, 8, 12} {
		for _, at := range [][]Open{nil, {nearly(1, 5)}} { // Base is open, or not
			x := four(api.Vec{0, 5}, append(slices.Clone(at), nearly(1, seq))...)
			want := four(api.Vec{0, 5}, append(slices.Clone(at), done(1, seq))...)
			answers(t, delivered(want), x, name(1, seq), lastReady)
			isRight(t, true, want, "done behind base")
		}
	}
}

func TestNotDoneAtBase(t *testing.T) {
	x := four(api.Vec{0, 5}, echoed(1, 5), done(1, 6))
	want := four(api.Vec{0, 5}, Open{1, 5, vote.Case{Echoes: ballots(ballot("e", 3)), Readies: ballots(ballot("d", 2))}}, done(1, 6))
	answers(t, answer{next: want}, x, name(1, 5), lastReady)
}

func TestVotesThatComeLate(t *testing.T) {
	x := four(api.Vec{0, 5}, done(1, 7))
	c := vote.Case{Readied: true, Done: true, Readies: ballots(ballot("d", 0, 1, 2, 3))}
	x = answers(t, answer{next: four(api.Vec{0, 5}, Open{1, 7, c})}, x, name(1, 7), aVote{vote.Ready, 3, "d"})
	c.Echoed = true
	answers(t, answer{next: four(api.Vec{0, 5}, Open{1, 7, c}), out: []vote.Out{{Kind: vote.Echo, Body: "d"}}}, x, name(1, 7), aVote{vote.Send, 1, "d"})
	refuses(t, api.ErrOld, four(api.Vec{0, 8}), name(1, 7), aVote{vote.Ready, 3, "d"})
}

func TestTheLastOnes(t *testing.T) {
	x := four(api.Vec{0, 995}, done(1, 996), done(1, 997), done(1, 998), nearly(1, 999))
	x = answers(t, delivered(four(api.Vec{0, 995}, done(1, 996), done(1, 997), done(1, 998), done(1, 999))), x, name(1, 999), lastReady)
	for _, who := range []uint8{0, 1} {
		x = take(x, name(1, 995), aVote{vote.Ready, who, "d"}).next
	}
	a := take(x, name(1, 995), lastReady)
	if !sameAnswer(a, delivered(four(api.Vec{0, 1000}))) || !Right(a.next) {
		t.Errorf("%+v", a)
	}
	refuses(t, api.ErrOld, a.next, name(1, 999), aVote{vote.Ready, 3, "d"})
	refuses(t, api.ErrArg, a.next, name(1, 1000), aVote{vote.Ready, 3, "d"})
}

func TestAWholeViewOfOneMember(t *testing.T) {
	x := Table{Members: 1}
	for seq := range 1000 {
		a := take(x, api.Name{Seq: seq}, aVote{vote.Ready, 0, "x"})
		if a.e != api.OK || !a.is || a.body != "x" || a.next.Base[0] != uint16(seq+1) || len(a.next.Open) != 0 {
			t.Fatalf("%d: %+v", seq, a)
		}
		x = a.next
	}
	refuses(t, api.ErrArg, x, api.Name{Seq: 1000}, aVote{vote.Ready, 0, "x"})
	refuses(t, api.ErrOld, x, api.Name{Seq: 999}, aVote{vote.Ready, 0, "x"})
}

// model keeps a case of every name that came, and works out from all of them what the table is to be.
type model struct {
	view    int
	members api.Set
	first   api.Vec
	cases   map[api.Name]vote.Case
}

func (m *model) base(from uint8) int {
	seq := int(m.first[from])
	for m.cases[api.Name{View: m.view, From: from, Seq: seq}].Done {
		seq++
	}
	return seq
}

func (m *model) table() Table {
	x := Table{View: m.view, Members: m.members}
	for _, from := range count.List(m.members) {
		base := m.base(from)
		x.Base[from] = uint16(base)
		for seq := base; seq < base+10; seq++ {
			if c, open := m.cases[api.Name{View: m.view, From: from, Seq: seq}]; open {
				x.Open = append(x.Open, Open{from, seq, c})
			}
		}
	}
	return x
}

func (m *model) take(n api.Name, v aVote) answer {
	refuse := func(e api.Errno) answer { return answer{next: m.table(), e: e} }
	if n.View != m.view {
		return refuse(api.ErrView)
	}
	if !slices.Contains(count.List(m.members), n.From) {
		return refuse(api.ErrMember)
	}
	if n.Seq < 0 || n.Seq > 999 {
		return refuse(api.ErrArg)
	}
	if n.Seq < m.base(n.From) {
		return refuse(api.ErrOld)
	}
	if n.Seq > m.base(n.From)+7 {
		return refuse(api.ErrFull)
	}
	var a answer
	var c vote.Case
	c, a.out, a.body, a.is, a.e = vote.Take(m.cases[n], m.members, n.From, v.kind, v.who, v.body)
	if a.e != api.OK {
		return refuse(a.e)
	}
	m.cases[n] = c
	a.next = m.table()
	return a
}

// anyName is mostly near to what the table takes.
func anyName(next func(int) int, x Table) api.Name {
	n := api.Name{View: x.View, From: uint8(next(18))}
	if l := count.List(x.Members); len(l) > 0 && next(20) > 0 {
		n.From = l[next(len(l))]
	}
	if n.From < 16 {
		n.Seq = int(x.Base[n.From]) + next(1+next(9))
	}
	switch next(40) {
	case 0:
		n.View += next(3) - 1
	case 1:
		n.Seq += next(12) - 6
	case 2:
		n.Seq = []int{-1, 0, 999, 1000}[next(4)]
	}
	return n
}

func anyVote(next func(int) int, x Table, n api.Name) aVote {
	v := aVote{next(3) + 1, uint8(next(17)), "a"}
	if l := count.List(x.Members); len(l) > 0 && next(20) > 0 {
		v.who = l[next(len(l))]
	}
	if v.kind == vote.Send && next(10) > 0 {
		v.who = n.From
	}
	switch next(30) {
	case 0:
		v.kind = next(9) - 3
	case 1, 2, 3:
		v.body = "b"
	case 4:
		v.body = ""
	case 5:
		v.body = strings.Repeat("c", 1000+next(2))
	}
	return v
}

func anyModel(next func(int) int) *model {
	m := &model{view: next(4), members: api.Set(next(1 << 16)), cases: map[api.Name]vote.Case{}}
	if next(3) > 0 {
		m.members = api.Set(1<<(1+next(7))-1) << next(9)
	}
	for _, id := range count.List(m.members) {
		if next(3) == 0 {
			m.first[id] = uint16(980 + next(21))
		}
	}
	return m
}

func TestTakeAsTheWordsSay(t *testing.T) {
	next := draw()
	seen := map[api.Errno]int{}
	for range 300 {
		m := anyModel(next)
		x := m.table()
		for range 300 {
			n := anyName(next, x)
			v := anyVote(next, x, n)
			before := copied(x)
			a, want := take(x, n, v), m.take(n, v)
			if !sameAnswer(a, want) || !sameTable(x, before) {
				t.Fatalf("%+v, %+v, %d by %d: %.10q:\n%+v, not\n%+v", before, n, v.kind, v.who, v.body, a, want)
			}
			if !Right(a.next) {
				t.Fatalf("may not be: %+v", a.next)
			}
			seen[a.e]++
			if up := int(a.next.Base[n.From%16]) - int(x.Base[n.From%16]); up > 0 {
				seen[api.Errno(-up)]++
			}
			x = a.next
		}
	}
	for _, e := range []api.Errno{api.OK, api.ErrArg, api.ErrView, api.ErrMember, api.ErrOld, api.ErrFull, -1, -2, -3} {
		if seen[e] < 50 {
			t.Errorf("too few of %d: %d", e, seen[e])
		}
	}
}

// From any table made by hand: one that may not be is refused, and of one that may be comes another that may.
func TestTakeOfAnyTable(t *testing.T) {
	next := draw()
	seen := map[api.Errno]int{}
	for range 10000 {
		x := anyTable(next)
		n := anyName(next, x)
		v := anyVote(next, x, n)
		before := copied(x)
		a := take(x, n, v)
		if !sameTable(x, before) {
			t.Fatalf("%+v was changed to %+v", before, x)
		}
		if a.e != api.OK && !sameAnswer(a, answer{next: x, e: a.e}) {
			t.Fatalf("beside %d: %+v of %+v", a.e, a, x)
		}
		if Right(x) != Right(a.next) || !may(x) && a.e != api.ErrArg {
			t.Fatalf("%d: %+v of %+v", a.e, a.next, x)
		}
		seen[a.e]++
	}
	if seen[api.OK] < 1000 || seen[api.ErrArg] < 1000 {
		t.Errorf("too few: %v", seen)
	}
}

// P8.3

func TestNoNameIsDeliveredTwice(t *testing.T) {
	next := draw()
	all := 0
	for range 200 {
		x := anyModel(next).table()
		start := x.Base
		told := map[api.Name]int{}
		for range 500 {
			n := anyName(next, x)
			a := take(x, n, anyVote(next, x, n))
			if a.is {
				told[n]++
				all++
			}
			if a.is && (told[n] > 1 || a.e != api.OK) {
				t.Fatalf("%+v is delivered for the time %d: %+v", n, told[n], a)
			}
			x = a.next
		}
		for _, from := range count.List(x.Members) { // and all that are behind it were, once
			for seq := start[from]; seq < x.Base[from]; seq++ {
				if told[api.Name{View: x.View, From: from, Seq: int(seq)}] != 1 {
					t.Errorf("%d of %d is gone, and was not delivered", seq, from)
				}
			}
		}
		for _, o := range x.Open {
			if told[api.Name{View: x.View, From: o.From, Seq: o.Seq}] == 1 != o.Case.Done {
				t.Errorf("%d of %d: done %t", o.Seq, o.From, o.Case.Done)
			}
		}
	}
	if all < 2000 {
		t.Errorf("too few: %d", all)
	}
}

func TestWhatWasDeliveredIsNotAgain(t *testing.T) {
	for _, seq := range []int{0, 3} { // one that is gone then, and one that is open behind a gap
		x := four(api.Vec{})
		told := 0
		for range 3 {
			for who := range uint8(4) {
				for _, kind := range []int{vote.Send, vote.Echo, vote.Ready} {
					a := take(x, name(1, seq), aVote{kind, who, "a"})
					if a.is {
						told++
					}
					x = a.next
				}
			}
		}
		if told != 1 {
			t.Errorf("%d was delivered %d times", seq, told)
		}
	}
}

// P8.4

// of are those of l that are one member's, or those that are not.
func of(l []Open, from uint8, its bool) []Open {
	return slices.DeleteFunc(slices.Clone(l), func(o Open) bool { return (o.From == from) != its })
}

func TestFewAreOpen(t *testing.T) {
	next := draw()
	most := 0
	for range 200 {
		x := anyModel(next).table()
		for range 300 {
			n := anyName(next, x)
			n.Seq += next(9) // often beyond what may be
			x = take(x, n, anyVote(next, x, n)).next
			for _, from := range count.List(x.Members) {
				l := of(x.Open, from, true)
				if len(l) > 8 {
					t.Fatalf("%d of %d are open: %+v", len(l), from, x)
				}
				most = max(most, len(l))
			}
		}
	}
	if most != 8 {
		t.Errorf("never more than %d", most)
	}
}

func TestAMemberThatOpensAllItCan(t *testing.T) {
	x := four(api.Vec{0, 40})
	for seq := range 1000 {
		for _, kind := range []int{vote.Send, vote.Echo, vote.Ready} {
			x = take(x, name(1, seq), aVote{kind, 1, "a"}).next
		}
	}
	if len(x.Open) != 8 || x.Open[0].Seq != 40 || x.Open[7].Seq != 47 || x.Base != (api.Vec{0, 40}) {
		t.Errorf("%+v", x)
	}
	if a := take(x, name(2, 0), aVote{vote.Echo, 1, "a"}); a.e != api.OK || len(a.next.Open) != 9 {
		t.Errorf("of another: %+v", a)
	}
}

func TestOneMembersNameLeavesTheOthers(t *testing.T) {
	next := draw()
	for range 200 {
		x := anyModel(next).table()
		for range 300 {
			n := anyName(next, x)
			y := take(x, n, anyVote(next, x, n)).next
			if !sameOpen(of(x.Open, n.From, false), of(y.Open, n.From, false)) {
				t.Fatalf("%+v: %+v, then %+v", n, x, y)
			}
			was, is := x.Base, y.Base
			if n.From < 16 {
				was[n.From], is[n.From] = 0, 0
			}
			if was != is || x.View != y.View || x.Members != y.Members {
				t.Fatalf("%+v: %+v, then %+v", n, x, y)
			}
			x = y
		}
	}
}

// What becomes of a member's names is the same, whatever comes for the others' names between.
func TestEachMembersNamesGoTheirOwnWay(t *testing.T) {
	next := draw()
	for range 100 {
		x := anyModel(next).table()
		var alone [16]Table
		for i := range alone {
			alone[i] = x
		}
		for range 300 {
			n := anyName(next, x)
			n.From %= 16
			v := anyVote(next, x, n)
			a, b := take(x, n, v), take(alone[n.From], n, v)
			if !slices.Equal(a.out, b.out) || a.body != b.body || a.is != b.is || a.e != b.e {
				t.Fatalf("%+v: %+v, alone %+v", n, a, b)
			}
			x, alone[n.From] = a.next, b.next
		}
		for from := range uint8(16) {
			if !sameOpen(of(x.Open, from, true), of(alone[from].Open, from, true)) || x.Base[from] != alone[from].Base[from] {
				t.Fatalf("of %d: %+v, alone %+v", from, x, alone[from])
			}
		}
	}
}

// The example

func TestExample(t *testing.T) {
	x := Table{Members: 1}
	a := take(x, api.Name{}, aVote{vote.Ready, 0, "x"})
	if a.e != api.OK || !a.is || a.body != "x" || a.next.Base != (api.Vec{1}) || len(a.next.Open) != 0 {
		t.Errorf("of 0: %+v", a)
	}
	refuses(t, api.ErrFull, a.next, api.Name{Seq: 9}, aVote{vote.Ready, 0, "x"})
	if b := take(a.next, api.Name{Seq: 8}, aVote{vote.Ready, 0, "x"}); b.e != api.OK || !b.is || b.next.Base != (api.Vec{1}) {
		t.Errorf("of 8: %+v", b)
	}
}

// R6, R8

// rooms are the memory of a table's lists, with room behind each of them, into which nobody is to write.
type rooms struct {
	open    []Open
	ballots []vote.Ballot
}

// roomy is a table whose lists have such room.
func roomy() (Table, rooms) {
	r := rooms{make([]Open, 12), make([]vote.Ballot, 64)}
	for i, o := range []Open{echoed(0, 2), nearly(1, 0), done(1, 1), done(1, 3), echoed(2, 5)} {
		e, f := r.ballots[i*8:i*8:i*8+4], r.ballots[i*8+4:i*8+4:i*8+8]
		o.Case.Echoes, o.Case.Readies = append(e, o.Case.Echoes...), append(f, o.Case.Readies...)
		r.open[i] = o
	}
	return Table{View: 2, Members: 15, Open: r.open[:5]}, r
}

func (r rooms) copied() rooms {
	return rooms{copied(Table{Open: r.open}).Open, slices.Clone(r.ballots)}
}

func (r rooms) same(s rooms) bool {
	return sameOpen(r.open, s.open) && slices.Equal(r.ballots, s.ballots)
}

// asks are names and votes of all kinds for the roomy table: taken and refused, open and not, some that are done.
func asks() ([]api.Name, []aVote) {
	return []api.Name{name(0, 0), name(0, 2), name(1, 0), name(1, 1), name(1, 2), name(2, 5), name(2, 7), name(3, 0), name(3, 8), name(9, 0), name(1, -1), {View: 7}},
		[]aVote{{vote.Send, 1, "d"}, {vote.Echo, 2, "e"}, {vote.Echo, 2, "new"}, lastReady, {vote.Ready, 3, "new"}, {vote.Ready, 9, "d"}, {9, 0, "d"}}
}

func TestNothingIsWrittenInto(t *testing.T) {
	names, votes := asks()
	for _, n := range names {
		for _, v := range votes {
			for _, wrong := range []bool{false, true} {
				x, r := roomy()
				if wrong {
					x.Base[9] = 1
				}
				before := r.copied()
				a := take(x, n, v)
				if !r.same(before) {
					t.Errorf("%+v, %v: %+v, not %+v", n, v, r, before)
				}
				if wrong && a.e != api.ErrArg {
					t.Errorf("%+v, %v: %d", n, v, a.e)
				}
				Right(x)
				if !r.same(before) {
					t.Errorf("Right: %+v, not %+v", r, before)
				}
			}
		}
	}
}

func scribbleBallots(l []vote.Ballot) {
	l = l[:cap(l)]
	for i := range l {
		l[i] = ballot("scribbled", 9)
	}
}

func scribbleOpen(l []Open) {
	l = l[:cap(l)]
	for i := range l {
		l[i] = Open{99, -5, vote.Case{Done: true, Echoes: ballots(ballot("scribbled", 9))}}
	}
}

// scribbled fails if writing over one list of a table that was answered, and over the room behind it, is seen elsewhere.
func scribbled(t *testing.T, answered Table, r rooms) {
	t.Helper()
	before, want := r.copied(), copied(answered)
	for i, o := range slices.Backward(answered.Open[:cap(answered.Open)]) { // the room first, in which what is gone may stand still
		scribbleBallots(o.Case.Echoes)
		if i < len(want.Open) {
			for j := range want.Open[i].Case.Echoes {
				want.Open[i].Case.Echoes[j] = ballot("scribbled", 9)
			}
		}
		if !sameTable(answered, want) || !r.same(before) {
			t.Fatalf("Echoes %d are shared: %+v, not %+v", i, answered, want)
		}
		scribbleBallots(o.Case.Readies)
		if i < len(want.Open) {
			for j := range want.Open[i].Case.Readies {
				want.Open[i].Case.Readies[j] = ballot("scribbled", 9)
			}
		}
		if !sameTable(answered, want) || !r.same(before) {
			t.Fatalf("Readies %d are shared: %+v, not %+v", i, answered, want)
		}
	}
	scribbleOpen(answered.Open)
	if !r.same(before) {
		t.Fatalf("Open is shared: %+v", r)
	}
}

func TestAnswersAreNewMemory(t *testing.T) {
	names, votes := asks()
	for _, n := range names {
		for _, v := range votes {
			for _, wrong := range []bool{false, true} {
				x, r := roomy()
				if wrong {
					x.Base[9] = 1
				}
				a := take(x, n, v)
				kept := a
				kept.next = copied(a.next)
				scribbled(t, a.next, r)
				again := take(x, n, v)
				if !sameAnswer(again, kept) {
					t.Errorf("%+v, %v: answered unlike: %+v, %+v", n, v, again, kept)
				}
				scribbleBallots(r.ballots)
				scribbleOpen(r.open)
				if !sameAnswer(again, kept) {
					t.Errorf("%+v, %v: what was handed in is kept: %+v", n, v, again)
				}
			}
		}
	}
}

func TestOneListHandedInOften(t *testing.T) {
	names, votes := asks()
	for _, n := range names {
		for _, v := range votes {
			l := ballots(ballot("e", 3))
			x := four(api.Vec{}, Open{0, 2, vote.Case{Echoes: l, Readies: l}}, Open{1, 0, vote.Case{Echoes: l, Readies: l}}, Open{1, 1, vote.Case{Done: true, Echoes: l}}, Open{2, 5, vote.Case{Readies: l}})
			a := take(x, n, v)
			scribbled(t, a.next, rooms{x.Open, l})
			if l[0] != ballot("e", 3) {
				t.Errorf("%+v, %v: %v", n, v, l)
			}
		}
	}
}

func TestTwoFromOneTable(t *testing.T) {
	x := Table{View: 2, Members: 15, Open: make([]Open, 0, 8)}
	a, b := take(x, name(1, 0), aVote{vote.Echo, 3, "e"}).next, take(x, name(2, 0), aVote{vote.Echo, 3, "e"}).next
	if !sameTable(a, four(api.Vec{}, echoed(1, 0))) || !sameTable(b, four(api.Vec{}, echoed(2, 0))) {
		t.Errorf("%+v, %+v", a, b)
	}
	// nor do those that grow from one that was answered
	c, d := take(a, name(1, 3), aVote{vote.Echo, 3, "e"}).next, take(a, name(0, 3), aVote{vote.Echo, 3, "e"}).next
	e, f := take(a, name(1, 0), aVote{vote.Echo, 1, "e"}).next, take(a, name(1, 0), aVote{vote.Echo, 2, "f"}).next
	for i, p := range [][2]Table{
		{a, four(api.Vec{}, echoed(1, 0))},
		{c, four(api.Vec{}, echoed(1, 0), echoed(1, 3))},
		{d, four(api.Vec{}, echoed(0, 3), echoed(1, 0))},
		{e, four(api.Vec{}, Open{1, 0, vote.Case{Echoes: ballots(ballot("e", 1, 3))}})},
		{f, four(api.Vec{}, Open{1, 0, vote.Case{Echoes: ballots(ballot("e", 3), ballot("f", 2))}})},
	} {
		if !sameTable(p[0], p[1]) {
			t.Errorf("number %d: %+v, not %+v", i, p[0], p[1])
		}
	}
}

func TestEmptyListsAreAsNone(t *testing.T) {
	none := four(api.Vec{0, 3}, Open{1, 3, vote.Case{}}, Open{2, 4, vote.Case{Done: true}})
	empty := four(api.Vec{0, 3}, Open{1, 3, vote.Case{Echoes: ballots(), Readies: make([]vote.Ballot, 0, 3)}}, Open{2, 4, vote.Case{Done: true, Echoes: make([]vote.Ballot, 0, 3), Readies: ballots()}})
	names, votes := asks()
	for _, n := range append(names, name(1, 3), name(2, 4)) {
		for _, v := range votes {
			if a, b := take(none, n, v), take(empty, n, v); !sameAnswer(a, b) {
				t.Errorf("%+v, %v: %+v, %+v", n, v, a, b)
			}
			if a, b := take(four(api.Vec{}), n, v), take(Table{View: 2, Members: 15, Open: []Open{}}, n, v); !sameAnswer(a, b) {
				t.Errorf("%+v, %v: %+v, %+v", n, v, a, b)
			}
		}
	}
}
