package link

import (
	"bytes"
	"fmt"
	"slices"
	"strings"
	"testing"

	"chantry/api"
	"chantry/know"
	"chantry/term"
)

const (
	n1     = api.Term("n\x00\x01")
	n2     = api.Term("n\x00\x02")
	key    = api.Term("dn\x00\x01c\x02\x02\x05") // of 2 and 5, who have n1
	most   = 1<<32 - 1
	noTerm = api.Term("x")
)

func many(n int, s string) api.Term { return api.Term(strings.Repeat(s, n)) }

func deep(n int) api.Term { return many(n-1, "h") + n1 }

// long has n bytes, and is at most 53 deep: n is at least 46.
func long(t *testing.T, n int) api.Term {
	t.Helper()
	x := n1
	for n-len(x) >= 46 {
		x = "pc\x28" + many(40, "a") + x
	}
	rest := min(n-len(x)-3, 40)
	x = "pc" + api.Term([]byte{byte(rest)}) + many(rest, "b") + x
	x = many(n-len(x), "h") + x
	if len(x) != n || term.Check(x) != api.OK && n <= api.MaxTerm {
		t.Fatalf("%d bytes, not %d, or no term", len(x), n)
	}
	return x
}

// filled is a body of n bytes that are not all the same.
func filled(n int) []byte {
	b := make([]byte, n)
	for i := range b {
		b[i] = byte(7*i + i/251 + 1)
	}
	return b
}

func same(x, y Letter) bool {
	return x.From == y.From && x.To == y.To && x.Seq == y.Seq && bytes.Equal(x.Body, y.Body) && x.Tag == y.Tag
}

func isZero(x Letter) bool { return same(x, Letter{}) }

// letter is from 2 to 5, rightly tagged.
func letter(t *testing.T, seq uint32, body []byte) Letter {
	t.Helper()
	return tagged(t, key, Letter{From: 2, To: 5, Seq: seq, Body: body})
}

func tagged(t *testing.T, k api.Term, x Letter) Letter {
	t.Helper()
	tag, e := Tag(k, x)
	if e != api.OK {
		t.Fatalf("Tag of %d bytes by %d bytes: %d", len(x.Body), len(k), e)
	}
	x.Tag = tag
	return x
}

// sent are letters 1 to n from 2 to 5, each with a body of its own.
func sent(t *testing.T, n int) []Letter {
	t.Helper()
	var l []Letter
	end := End{Key: key}
	for i := range n {
		next, x, e := Send(end, 2, 5, []byte{byte(i), byte(i >> 8)})
		if e != api.OK || x.Seq != uint32(i+1) {
			t.Fatalf("Send number %d: %d, %d", i+1, x.Seq, e)
		}
		end, l = next, append(l, x)
	}
	return l
}

// badKeys are those that Check finds fault with.
func badKeys(t *testing.T) map[api.Term]api.Errno {
	return map[api.Term]api.Errno{
		"": api.ErrForm, noTerm: api.ErrForm, n1 + "n": api.ErrForm, "n\x00": api.ErrForm, many(2000, "h"): api.ErrForm,
		long(t, 2001): api.ErrBig, many(2001, "x"): api.ErrBig, deep(61): api.ErrBig, deep(200): api.ErrBig,
	}
}

// P6.1

func TestKeyOfAllPairs(t *testing.T) {
	for a := range 256 {
		for b := range 256 {
			k, e := Key(n2, uint8(a), uint8(b))
			if a >= 16 || b >= 16 || a == b {
				if k != "" || e != api.ErrArg {
					t.Fatalf("Key of %d and %d: %q, %d", a, b, k, e)
				}
				continue
			}
			want := "d" + n2 + "c\x02" + api.Term([]byte{byte(min(a, b)), byte(max(a, b))})
			if k != want || e != api.OK {
				t.Fatalf("Key of %d and %d: %q, %d", a, b, k, e)
			}
		}
	}
}

func TestKeyAtTheLastIds(t *testing.T) {
	if k, e := Key(n1, 15, 0); k != "dn\x00\x01c\x02\x00\x0f" || e != api.OK {
		t.Errorf("of 15 and 0: %q, %d", k, e)
	}
	for _, p := range [][2]uint8{{15, 16}, {16, 15}, {16, 0}, {0, 16}, {15, 15}, {0, 0}, {16, 16}, {255, 0}, {0, 255}} {
		if k, e := Key(n1, p[0], p[1]); k != "" || e != api.ErrArg {
			t.Errorf("of %v: %q, %d", p, k, e)
		}
	}
}

func TestKeyOfOddSecrets(t *testing.T) {
	for s, want := range badKeys(t) {
		if k, e := Key(s, 2, 5); k != "" || e != want {
			t.Errorf("of %.20q (%d bytes): %.20q, %d, not %d", s, len(s), k, e, want)
		}
	}
}

func TestKeyThatMayNotBe(t *testing.T) {
	for n, want := range map[int]api.Errno{1994: api.OK, 1995: api.OK, 1996: api.ErrBig, 2000: api.ErrBig} {
		if k, e := Key(long(t, n), 2, 5); e != want || (e == api.OK) != (len(k) == n+5) || e != api.OK && k != "" {
			t.Errorf("of %d bytes: %d bytes, %d", n, len(k), e)
		}
	}
	for n, want := range map[int]api.Errno{58: api.OK, 59: api.OK, 60: api.ErrBig} {
		if k, e := Key(deep(n), 2, 5); e != want || (e == api.OK) != (k != "") {
			t.Errorf("of %d deep: %q, %d", n, k, e)
		}
	}
}

func TestKeyFirstError(t *testing.T) {
	for _, s := range []api.Term{noTerm, long(t, 2001), deep(61), deep(60), long(t, 2000)} {
		for _, p := range [][2]uint8{{16, 2}, {2, 16}, {3, 3}} {
			if k, e := Key(s, p[0], p[1]); k != "" || e != api.ErrArg {
				t.Errorf("of %.20q, %v: %q, %d", s, p, k, e)
			}
		}
	}
}

// wanted is a tag put together from the last piece on, by the chapter's words.
func wanted(k api.Term, x Letter) api.Term {
	s := string([]byte{x.From, x.To, byte(x.Seq / (1 << 24)), byte(x.Seq / (1 << 16) % 256), byte(x.Seq / (1 << 8) % 256), byte(x.Seq % 256)}) + string(x.Body)
	return "m" + k + wantedOf(s)
}

func wantedOf(s string) api.Term {
	if len(s) <= 40 {
		return api.Term("c" + string([]byte{byte(len(s))}) + s)
	}
	return "p" + wantedOf(s[:40]) + wantedOf(s[40:])
}

func TestTagsWrittenOut(t *testing.T) {
	head := "\x02\x05\x01\x02\x03\x04"
	a := strings.Repeat("a", 74)
	for _, c := range []struct {
		bytes int
		want  string
	}{
		{0, "c\x06" + head},
		{1, "c\x07" + head + "a"},
		{34, "c\x28" + head + a[:34]},
		{35, "pc\x28" + head + a[:34] + "c\x01a"},
		{74, "pc\x28" + head + a[:34] + "c\x28" + a[:40]},
		{75, "pc\x28" + head + a[:34] + "pc\x28" + a[:40] + "c\x01a"},
		{114, "pc\x28" + head + a[:34] + "pc\x28" + a[:40] + "c\x28" + a[:40]},
		{115, "pc\x28" + head + a[:34] + "pc\x28" + a[:40] + "pc\x28" + a[:40] + "c\x01a"},
	} {
		x := Letter{From: 2, To: 5, Seq: 0x01020304, Body: bytes.Repeat([]byte("a"), c.bytes)}
		if tag, e := Tag(n1, x); tag != "m"+n1+api.Term(c.want) || e != api.OK {
			t.Errorf("of %d bytes: %q, %d", c.bytes, tag, e)
		}
	}
}

func TestTagOfEveryLength(t *testing.T) {
	for n := range 1001 {
		x := Letter{From: 9, To: 0, Seq: 0xfedcba98, Body: filled(n)}
		if tag, e := Tag(key, x); tag != wanted(key, x) || e != api.OK || term.Check(tag) != api.OK {
			t.Fatalf("of %d bytes: %q, %d", n, tag, e)
		}
	}
	for _, n := range []int{1001, 1002, 1006, 2000, 100000} {
		if tag, e := Tag(key, Letter{From: 2, To: 5, Seq: 1, Body: make([]byte, n)}); tag != "" || e != api.ErrBig {
			t.Errorf("of %d bytes: %q, %d", n, tag, e)
		}
	}
}

func TestTagAsksForNoMembersAndNoNumber(t *testing.T) {
	for _, x := range []Letter{{}, {From: 3, To: 3}, {From: 16, To: 255, Seq: most}, {From: 255, To: 255, Seq: 1}, {Tag: "x"}, {Tag: n1}} {
		if tag, e := Tag(n2, x); tag != wanted(n2, x) || e != api.OK {
			t.Errorf("of %v: %q, %d", x, tag, e)
		}
	}
}

func TestTagOfOddKeys(t *testing.T) {
	for k, want := range badKeys(t) {
		for _, n := range []int{0, 1000} {
			if tag, e := Tag(k, Letter{From: 2, To: 5, Seq: 1, Body: filled(n)}); tag != "" || e != want {
				t.Errorf("by %.20q (%d bytes), of %d: %.20q, %d, not %d", k, len(k), n, tag, e, want)
			}
		}
	}
}

func TestTagThatMayNotBe(t *testing.T) {
	for _, c := range []struct {
		body, key int
		want      api.Errno
	}{
		{0, 1991, api.OK}, {0, 1992, api.ErrBig}, {0, 2000, api.ErrBig},
		{34, 1957, api.OK}, {34, 1958, api.ErrBig},
		{35, 1953, api.OK}, {35, 1954, api.ErrBig},
		{1000, 916, api.OK}, {1000, 917, api.ErrBig}, {1000, 2000, api.ErrBig},
	} {
		k := long(t, c.key)
		x := Letter{From: 2, To: 5, Seq: 1, Body: filled(c.body)}
		tag, e := Tag(k, x)
		if e != c.want || e == api.OK && tag != wanted(k, x) || e != api.OK && tag != "" {
			t.Errorf("of %d bytes, by %d: %d bytes, %d", c.body, c.key, len(tag), e)
		}
	}
	for n, want := range map[int]api.Errno{26: api.OK, 58: api.OK, 59: api.OK, 60: api.ErrBig} {
		for _, body := range []int{0, 1000} {
			if tag, e := Tag(deep(n), Letter{Body: filled(body)}); e != want || (e == api.OK) != (tag != "") {
				t.Errorf("by %d deep: %q, %d", n, tag, e)
			}
		}
	}
}

func TestTagFirstError(t *testing.T) {
	for _, k := range []api.Term{noTerm, "", deep(60), deep(61)} {
		if tag, e := Tag(k, Letter{Body: make([]byte, 1001)}); tag != "" || e != api.ErrBig {
			t.Errorf("by %.20q: %q, %d", k, tag, e)
		}
	}
	if tag, e := Tag(many(2000, "h"), Letter{Body: make([]byte, 1000)}); tag != "" || e != api.ErrForm {
		t.Errorf("by no term, too deep: %q, %d", tag, e)
	}
}

// P6.2

func TestSend(t *testing.T) {
	for _, n := range []int{0, 1, 34, 35, 74, 75, 999, 1000} {
		e := End{Key: key, Next: 41, Top: 7, Came: 0x55}
		want := tagged(t, key, Letter{From: 5, To: 2, Seq: 42, Body: filled(n)})
		next, x, err := Send(e, 5, 2, filled(n))
		if err != api.OK || !same(x, want) || x.Tag != wanted(key, x) {
			t.Errorf("of %d bytes: %v, %d", n, x, err)
		}
		if next != (End{Key: key, Next: 42, Top: 7, Came: 0x55}) {
			t.Errorf("of %d bytes: then %v", n, next)
		}
	}
}

func TestSendNumbersFromOne(t *testing.T) {
	e := End{Key: key}
	for i := range 200 {
		next, x, err := Send(e, 2, 5, nil)
		if err != api.OK || x.Seq != uint32(i+1) || next != (End{Key: key, Next: uint32(i + 1)}) {
			t.Fatalf("number %d: %v, %v, %d", i+1, x, next, err)
		}
		e = next
	}
}

func TestSendAtTheLastNumbers(t *testing.T) {
	e := End{Key: key, Next: most - 1}
	next, x, err := Send(e, 2, 5, []byte("z"))
	if err != api.OK || !same(x, letter(t, most, []byte("z"))) || next.Next != most {
		t.Errorf("the last one: %v, %v, %d", x, next, err)
	}
	again, x, err := Send(next, 2, 5, []byte("z"))
	if err != api.ErrFull || !isZero(x) || again != next {
		t.Errorf("behind it: %v, %v, %d", x, again, err)
	}
}

// sendFails wants an error, no letter, and the end as it was.
func sendFails(t *testing.T, want api.Errno, e End, from, to uint8, body []byte) {
	t.Helper()
	if next, x, err := Send(e, from, to, body); err != want || !isZero(x) || next != e {
		t.Errorf("from %d to %d, of %d bytes: %v, %v, %d, not %d", from, to, len(body), next, x, err, want)
	}
}

func TestSendOfIds(t *testing.T) {
	e := End{Key: key, Next: 3, Top: 9, Came: 1}
	for a := range 256 {
		for b := range 256 {
			if a >= 16 || b >= 16 || a == b {
				sendFails(t, api.ErrArg, e, uint8(a), uint8(b), nil)
			} else if _, x, err := Send(e, uint8(a), uint8(b), nil); err != api.OK || x.From != uint8(a) || x.To != uint8(b) {
				t.Errorf("from %d to %d: %v, %d", a, b, x, err)
			}
		}
	}
}

func TestSendTagsErrors(t *testing.T) {
	e := End{Next: 3, Top: 9, Came: 1}
	for k, want := range badKeys(t) {
		e.Key = k
		sendFails(t, want, e, 2, 5, []byte("a"))
	}
	e.Key = key
	sendFails(t, api.ErrBig, e, 2, 5, make([]byte, 1001))
	e.Key = long(t, 916)
	sendFails(t, api.ErrBig, End{Key: long(t, 917)}, 2, 5, make([]byte, 1000))
	if _, _, err := Send(e, 2, 5, make([]byte, 1000)); err != api.OK {
		t.Errorf("by 916 bytes: %d", err)
	}
	sendFails(t, api.ErrBig, End{Key: deep(60)}, 2, 5, nil)
	sendFails(t, api.ErrForm, End{}, 2, 5, nil)
}

func TestSendFirstError(t *testing.T) {
	big := make([]byte, 1001)
	sendFails(t, api.ErrArg, End{Key: noTerm, Next: most}, 16, 5, big)
	sendFails(t, api.ErrArg, End{Key: noTerm, Next: most}, 5, 5, big)
	sendFails(t, api.ErrArg, End{Key: key, Next: most}, 5, 16, nil)
	sendFails(t, api.ErrArg, End{Key: key}, 5, 16, big)
	sendFails(t, api.ErrFull, End{Key: noTerm, Next: most}, 2, 5, big)
	sendFails(t, api.ErrFull, End{Key: noTerm, Next: most}, 2, 5, nil)
	sendFails(t, api.ErrFull, End{Key: key, Next: most}, 2, 5, big)
	sendFails(t, api.ErrBig, End{Key: noTerm, Next: most - 1}, 2, 5, big)
}

func TestSendKeepsNothingOfTheBody(t *testing.T) {
	room := filled(100)
	kept := slices.Clone(room)
	body := room[:50]
	_, x, _ := Send(End{Key: key}, 2, 5, body)
	if !bytes.Equal(room, kept) {
		t.Error("the body, or what stands behind it, was written over")
	}
	clear(room)
	if !bytes.Equal(x.Body, kept[:50]) || x.Tag != wanted(key, x) {
		t.Error("writing over the body changed the letter")
	}
	room = slices.Clone(kept)
	_, x, _ = Send(End{Key: key}, 2, 5, room[:50])
	clear(x.Body)
	clear(x.Body[:cap(x.Body)])
	if !bytes.Equal(room, kept) {
		t.Error("writing over the letter changed the body")
	}
	if _, y, _ := Send(End{Key: key}, 2, 5, room[:50]); !bytes.Equal(y.Body, kept[:50]) {
		t.Error("writing over a letter changed the next one")
	}
}

func TestSendOfNilAndEmptyBodiesAlike(t *testing.T) {
	_, x, e := Send(End{Key: key}, 2, 5, nil)
	_, y, f := Send(End{Key: key}, 2, 5, []byte{})
	if !same(x, y) || e != api.OK || f != api.OK {
		t.Errorf("%v, %d, %v, %d", x, e, y, f)
	}
}

// P6.3

// takes wants that a letter of a number is taken, and the end then.
func takes(t *testing.T, e End, seq uint32, want End) {
	t.Helper()
	if next, err := Accept(e, 5, letter(t, seq, []byte("b"))); err != api.OK || next != want {
		t.Errorf("Top %d, Came %#x, number %d: Top %d, Came %#x, %d", e.Top, e.Came, seq, next.Top, next.Came, err)
	}
}

// refuses wants an error, and the end as it was.
func refuses(t *testing.T, want api.Errno, e End, me uint8, x Letter) {
	t.Helper()
	if next, err := Accept(e, me, x); err != want || next != e {
		t.Errorf("Top %d, Came %#x, by %d, from %d to %d, number %d: %d, not %d", e.Top, e.Came, me, x.From, x.To, x.Seq, err, want)
	}
}

func TestAcceptAboveTop(t *testing.T) {
	const came = 0xf00000000000000b
	e := End{Key: key, Next: 77, Top: 100, Came: came}
	for _, c := range []struct {
		seq  uint32
		came uint64
	}{
		{101, 0xe000000000000017}, {102, 0xc00000000000002d}, {104, 0xb1}, {160, 0xb000000000000001},
		{162, 0xc000000000000001}, {163, 1<<63 | 1}, {164, 1}, {165, 1}, {228, 1}, {100 + 1<<16, 1}, {most, 1},
	} {
		takes(t, e, c.seq, End{Key: key, Next: 77, Top: c.seq, Came: c.came})
	}
	takes(t, End{Key: key}, 1, End{Key: key, Top: 1, Came: 1})
	takes(t, End{Key: key}, 64, End{Key: key, Top: 64, Came: 1})
	takes(t, End{Key: key}, most, End{Key: key, Top: most, Came: 1})
	takes(t, End{Key: key, Top: most - 1, Came: 3}, most, End{Key: key, Top: most, Came: 7})
}

func TestAcceptBehindTop(t *testing.T) {
	for _, top := range []uint32{100, 65, 64, most} {
		e := End{Key: key, Next: 7, Top: top, Came: 1}
		for behind := uint32(1); behind < 64; behind++ {
			then := End{Key: key, Next: 7, Top: top, Came: 1 | 1<<behind}
			if top-behind == 0 {
				continue
			}
			takes(t, e, top-behind, then)
			refuses(t, api.ErrOld, then, 5, letter(t, top-behind, nil))
			all := then
			all.Came = 1<<64 - 1
			refuses(t, api.ErrOld, all, 5, letter(t, top-behind, nil))
			all.Came &^= 1 << behind
			takes(t, all, top-behind, End{Key: key, Next: 7, Top: top, Came: 1<<64 - 1})
		}
		refuses(t, api.ErrOld, e, 5, letter(t, top, nil))
	}
}

func TestAcceptFarBehindTop(t *testing.T) {
	for _, came := range []uint64{0, 1, 1 << 63, 1<<64 - 1} {
		e := End{Key: key, Top: 1000, Came: came}
		for _, seq := range []uint32{936, 935, 900, 872, 871, 1} {
			refuses(t, api.ErrOld, e, 5, letter(t, seq, nil))
		}
		e.Top = most
		for _, seq := range []uint32{most - 64, most - 65, most - 128, most - 256, most - 1<<16, 1 << 31, 1} {
			refuses(t, api.ErrOld, e, 5, letter(t, seq, nil))
		}
	}
	takes(t, End{Key: key, Top: 1000}, 937, End{Key: key, Top: 1000, Came: 1 << 63})
	takes(t, End{Key: key, Top: 1000}, 1000, End{Key: key, Top: 1000, Came: 1}) // no call leaves such an end, but the words hold for it
}

func TestAcceptOfIds(t *testing.T) {
	e := End{Key: key, Next: 3, Top: 9, Came: 1}
	for _, me := range []uint8{0, 5, 15, 16, 255} {
		for from := range 256 {
			for to := range 32 {
				x := tagged(t, key, Letter{From: uint8(from), To: uint8(to), Seq: 10})
				if me < 16 && to == int(me) && from < 16 && from != to {
					if next, err := Accept(e, me, x); err != api.OK || next.Top != 10 {
						t.Errorf("by %d, from %d to %d: %d", me, from, to, err)
					}
				} else {
					refuses(t, api.ErrArg, e, me, x)
				}
			}
		}
	}
	refuses(t, api.ErrArg, e, 16, tagged(t, key, Letter{From: 2, To: 16, Seq: 10}))
	refuses(t, api.ErrArg, e, 255, tagged(t, key, Letter{From: 2, To: 255, Seq: 10}))
}

func TestAcceptOfNumbers(t *testing.T) {
	for _, top := range []uint32{0, 1, 63, 64, most} {
		refuses(t, api.ErrArg, End{Key: key, Top: top}, 5, letter(t, 0, []byte("a")))
	}
	takes(t, End{Key: key}, 1, End{Key: key, Top: 1, Came: 1})
	takes(t, End{Key: key, Top: 7, Came: 1}, most, End{Key: key, Top: most, Came: 1})
}

func TestAcceptTagsErrors(t *testing.T) {
	x := letter(t, 1, []byte("a"))
	for k, want := range badKeys(t) {
		refuses(t, want, End{Key: k, Next: 3, Top: 9}, 5, x)
	}
	refuses(t, api.ErrForm, End{}, 5, x)
	refuses(t, api.ErrBig, End{Key: deep(60)}, 5, x)
	refuses(t, api.ErrBig, End{Key: long(t, 917)}, 5, letter(t, 1, make([]byte, 1000)))
	x.Body = make([]byte, 1001)
	refuses(t, api.ErrBig, End{Key: key}, 5, x)
	k := long(t, 916)
	if _, e := Accept(End{Key: k}, 5, tagged(t, k, Letter{From: 2, To: 5, Seq: 1, Body: filled(1000)})); e != api.OK {
		t.Errorf("1000 bytes by 916: %d", e)
	}
}

func TestAcceptOfOtherTags(t *testing.T) {
	e := End{Key: key, Top: 3, Came: 1}
	x := letter(t, 4, []byte("abc"))
	other, _ := Tag(n1, x)
	for _, tag := range []api.Term{"", noTerm, n1, key, other, x.Tag + "a", x.Tag[:len(x.Tag)-1], "s" + x.Tag[1:], x.Tag[1+len(key):], many(2001, "h"), letter(t, 5, []byte("abc")).Tag} {
		y := x
		y.Tag = tag
		refuses(t, api.ErrTag, e, 5, y)
	}
	if _, err := Accept(e, 5, x); err != api.OK {
		t.Errorf("by the right one: %d", err)
	}
}

func TestAcceptFirstError(t *testing.T) {
	old := End{Key: key, Top: 100, Came: 1}
	bad := End{Key: noTerm, Top: 100, Came: 1}
	big := make([]byte, 1001)
	for _, x := range []Letter{{From: 2, To: 4, Seq: 1}, {From: 5, To: 5, Seq: 1}, {From: 16, To: 5, Seq: 1}, {From: 2, To: 5}} {
		refuses(t, api.ErrArg, old, 5, x)
		refuses(t, api.ErrArg, bad, 5, x)
		x.Body = big
		refuses(t, api.ErrArg, bad, 5, x)
		refuses(t, api.ErrArg, old, 5, x)
	}
	refuses(t, api.ErrBig, bad, 5, Letter{From: 2, To: 5, Seq: 1, Body: big})
	refuses(t, api.ErrForm, bad, 5, Letter{From: 2, To: 5, Seq: 1})
	refuses(t, api.ErrForm, bad, 5, letter(t, 100, nil))
	refuses(t, api.ErrTag, old, 5, Letter{From: 2, To: 5, Seq: 1})
	refuses(t, api.ErrTag, old, 5, Letter{From: 2, To: 5, Seq: 100, Tag: n1})
	refuses(t, api.ErrOld, old, 5, letter(t, 100, nil))
	refuses(t, api.ErrOld, old, 5, letter(t, 1, nil))
}

func TestAcceptAndTagLeaveTheLetterAlone(t *testing.T) {
	room := filled(200)
	kept := slices.Clone(room)
	x := letter(t, 9, room[:100])
	Accept(End{Key: key}, 5, x)
	Accept(End{Key: n1}, 5, x)
	Tag(n1, x)
	if !bytes.Equal(room, kept) {
		t.Error("the body, or what stands behind it, was written over")
	}
	clear(room)
	if x.Tag != wanted(key, Letter{From: 2, To: 5, Seq: 9, Body: kept[:100]}) {
		t.Error("writing over the body changed the tag")
	}
}

// P6.4

func TestExample(t *testing.T) {
	k, _ := Key(n1, 2, 5)
	from, to := End{Key: k}, End{Key: k}
	from, x, e := Send(from, 2, 5, []byte("a"))
	if e != api.OK || x.Seq != 1 || from.Next != 1 {
		t.Errorf("sent first: %d, %d", x.Seq, e)
	}
	to, e = Accept(to, 5, x)
	if e != api.OK {
		t.Errorf("accepted: %d", e)
	}
	if again, e := Accept(to, 5, x); e != api.ErrOld || again != to {
		t.Errorf("accepted twice: %d", e)
	}
}

func TestEveryOrderOfSix(t *testing.T) {
	l := sent(t, 6)
	var orders func(done []Letter, rest []Letter)
	orders = func(done, rest []Letter) {
		if len(rest) == 0 {
			takenOnce(t, done)
			return
		}
		for i := range rest {
			orders(append(slices.Clone(done), rest[i]), slices.Delete(slices.Clone(rest), i, i+1))
		}
	}
	orders(nil, l)
}

// takenOnce wants that each letter is taken the first time, and never again, however often it comes between.
func takenOnce(t *testing.T, l []Letter) {
	t.Helper()
	e := End{Key: key}
	for i, x := range l {
		next, err := Accept(e, 5, x)
		if err != api.OK {
			t.Fatalf("number %d, as the %dth: %d", x.Seq, i, err)
		}
		e = next
		for _, y := range l[:i+1] {
			if next, err := Accept(e, 5, y); err != api.ErrOld || next != e {
				t.Fatalf("number %d again: %d", y.Seq, err)
			}
		}
	}
}

func TestSixtyFourBackwards(t *testing.T) {
	l := sent(t, 300)
	for _, first := range []int{0, 1, 100, 236} {
		back := slices.Clone(l[first : first+64])
		slices.Reverse(back)
		takenOnce(t, back)
	}
	late := append(slices.Clone(l[1:64]), l[0]) // 63 behind
	takenOnce(t, late)
	e := End{Key: key}
	for _, x := range l[1:65] {
		e, _ = Accept(e, 5, x)
	}
	refuses(t, api.ErrOld, e, 5, l[0]) // 64 behind
}

// draw gives numbers that are the same in every run.
func draw() func(below int) int {
	s := uint64(88172645463325252)
	return func(below int) int {
		s ^= s << 13
		s ^= s >> 7
		s ^= s << 17
		return int(s % uint64(below))
	}
}

func TestAnyOrderAsTheWordsSay(t *testing.T) {
	l := sent(t, 1000)
	next := draw()
	for range 40 {
		e, came, top := End{Key: key}, map[uint32]bool{}, uint32(0)
		for range 400 {
			low := max(0, int(top)-90)
			x := l[min(999, low+next(100+next(2)*next(100)))]
			want := api.OK
			if came[x.Seq] || x.Seq+64 <= top {
				want = api.ErrOld
			} else {
				came[x.Seq], top = true, max(top, x.Seq)
			}
			got, err := Accept(e, 5, x)
			if err != want || got.Key != key || got.Next != 0 || got.Top != top || err != api.OK && got != e {
				t.Fatalf("number %d at %v: %v, %d, not %d", x.Seq, e, got, err, want)
			}
			e = got
			for i := uint32(0); i < 64 && i < top; i++ {
				if e.Came>>i&1 == 1 != came[top-i] {
					t.Fatalf("Top %d: the bit of %d is wrong", top, top-i)
				}
			}
		}
	}
}

func TestMixedOrdersAreTakenWhole(t *testing.T) {
	l := sent(t, 500)
	next := draw()
	for range 20 {
		mixed := slices.Clone(l)
		for from := 0; from+64 <= len(mixed); from += 64 {
			for i := 63; i > 0; i-- {
				j := next(i + 1)
				mixed[from+i], mixed[from+j] = mixed[from+j], mixed[from+i]
			}
		}
		e := End{Key: key}
		for _, x := range mixed {
			then, err := Accept(e, 5, x)
			if err != api.OK {
				t.Fatalf("number %d at Top %d: %d", x.Seq, e.Top, err)
			}
			e = then
		}
	}
}

func TestBothWaysOnOneLink(t *testing.T) {
	two, five := End{Key: key}, End{Key: key}
	for i := range 100 {
		var x, y Letter
		var e api.Errno
		two, x, _ = Send(two, 2, 5, []byte{byte(i)})
		five, y, _ = Send(five, 5, 2, []byte{byte(i)})
		if x.Tag == y.Tag {
			t.Fatal("both ways have one tag")
		}
		if five, e = Accept(five, 5, x); e != api.OK {
			t.Fatalf("to 5: %d", e)
		}
		if two, e = Accept(two, 2, y); e != api.OK {
			t.Fatalf("to 2: %d", e)
		}
		refuses(t, api.ErrArg, two, 2, x) // its own one, come back
		x.From, x.To = 5, 2
		refuses(t, api.ErrTag, two, 2, x)
	}
	if two != five || two.Next != 100 || two.Top != 100 {
		t.Errorf("%v, %v", two, five)
	}
}

// P6.5

func TestNoPartOfALetterCanBeChanged(t *testing.T) {
	for _, n := range []int{1, 33, 34, 35, 73, 74, 75, 200, 1000} {
		x := letter(t, 70, filled(n))
		changed := func(f func(y *Letter)) {
			t.Helper()
			y := x
			y.Body = slices.Clone(x.Body)
			f(&y)
			refuses(t, api.ErrTag, End{Key: key, Top: 60, Came: 1}, 5, y)
		}
		for from := range uint8(16) {
			if from != 2 && from != 5 {
				changed(func(y *Letter) { y.From = from })
			}
		}
		for bit := range 32 {
			changed(func(y *Letter) { y.Seq ^= 1 << bit })
		}
		for i := range n {
			changed(func(y *Letter) { y.Body[i] ^= byte(1 << (i % 8)) })
		}
		changed(func(y *Letter) { y.Body = y.Body[1:] })
		changed(func(y *Letter) { y.Body = y.Body[:n-1] })
		if n < 1000 {
			changed(func(y *Letter) { y.Body = append(y.Body, 0) })
			changed(func(y *Letter) { y.Body = append([]byte{0}, y.Body...) })
		}
		y := x
		y.To = 4
		refuses(t, api.ErrTag, End{Key: key}, 4, y)
	}
}

func TestAnotherKeysLettersAreNotTaken(t *testing.T) {
	for a := range uint8(16) {
		for b := range a {
			for _, secret := range []api.Term{n1, n2} {
				k, _ := Key(secret, a, b)
				x := tagged(t, k, Letter{From: 2, To: 5, Seq: 1, Body: []byte("a")})
				if next, e := Accept(End{Key: key}, 5, x); (e == api.OK) != (k == key) || e != api.OK && (e != api.ErrTag || next != End{Key: key}) {
					t.Errorf("of %d and %d by %q: %d", a, b, secret, e)
				}
			}
		}
	}
	for _, k := range []api.Term{n1, "h" + key, "s" + key + n1, "dn\x00\x01c\x02\x05\x02"} {
		refuses(t, api.ErrTag, End{Key: key}, 5, tagged(t, k, Letter{From: 2, To: 5, Seq: 1}))
	}
}

func TestUnlikeLettersHaveUnlikeTags(t *testing.T) {
	owners := map[api.Term]string{}
	for _, from := range []uint8{0, 2, 5, 99} {
		for _, to := range []uint8{0, 2, 5, 112} {
			for _, seq := range []uint32{1, 2, 99, 256, 1 << 16, 1 << 24, most} {
				for _, b := range []string{"", "\x00", "\x00\x00", "a", "c", "c\x00", "c\x01a", "ac", "pc\x00c\x00"} {
					for _, pad := range []int{0, 33, 34, 73, 74, 75} {
						body := strings.Repeat("c", pad) + b
						x := tagged(t, key, Letter{From: from, To: to, Seq: seq, Body: []byte(body)})
						me := fmt.Sprintf("%d %d %d %q", from, to, seq, body)
						if who, is := owners[x.Tag]; is && who != me {
							t.Fatalf("one tag of %s and %s", who, me)
						}
						owners[x.Tag] = me
					}
				}
			}
		}
	}
}

// Who sees all letters, and has the keys of all other links, comes to the tag of no letter that was not sent.
func TestWhoSeesAllComesToNoOtherTag(t *testing.T) {
	var seen []api.Term
	for _, x := range sent(t, 20) {
		seen = append(seen, x.Tag)
	}
	for a := range uint8(16) {
		for b := range a {
			if k, _ := Key(n1, a, b); k != key {
				seen = append(seen, k)
			}
		}
	}
	for _, x := range []Letter{letter(t, 21, nil), letter(t, 1, []byte{1, 0}), letter(t, 1, nil), tagged(t, key, Letter{From: 5, To: 2, Seq: 1, Body: []byte{0, 0}})} {
		if is, e := know.Derives(seen, x.Tag); is || e != api.OK {
			t.Errorf("number %d: %v, %d", x.Seq, is, e)
		}
		if is, e := know.Derives(append(slices.Clone(seen), key), x.Tag); !is || e != api.OK {
			t.Errorf("number %d by the key: %v, %d", x.Seq, is, e)
		}
	}
	if is, e := know.Derives(seen, letter(t, 1, []byte{0, 0}).Tag); !is || e != api.OK {
		t.Errorf("one that was sent: %v, %d", is, e)
	}
}

// R4

func TestTheSameAgain(t *testing.T) {
	e := End{Key: key, Next: 8, Top: 4, Came: 5}
	x := letter(t, 3, filled(90))
	a, errA := Accept(e, 5, x)
	f, y, errY := Send(e, 2, 5, filled(90))
	sent(t, 10)
	if b, errB := Accept(e, 5, x); a != b || errA != errB {
		t.Errorf("Accept: %v, %v", a, b)
	}
	if g, z, errZ := Send(e, 2, 5, filled(90)); f != g || !same(y, z) || errY != errZ {
		t.Errorf("Send: %v, %v", y, z)
	}
}
