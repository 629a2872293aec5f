package term

import (
	"slices"
	"strings"
	"testing"

	"chantry/api"
)

var kinds = []byte{Hash, Derive, Mac, Seal, Pair}

func made(t *testing.T, kind byte, parts ...api.Term) api.Term {
	t.Helper()
	x, e := Make(kind, parts...)
	if e != api.OK {
		t.Fatalf("Make(%q, %q): %d", kind, parts, e)
	}
	return x
}

func constant(t *testing.T, s string) api.Term {
	t.Helper()
	x, e := NewConst(s)
	if e != api.OK {
		t.Fatalf("NewConst(%q): %d", s, e)
	}
	return x
}

func many(n int, s string) api.Term { return api.Term(strings.Repeat(s, n)) }

// ladder is n deep, by its first or its second parts.
func ladder(n int, first bool) api.Term {
	if first {
		return many(n-1, "p") + "n\x00\x01" + many(n-1, "c\x00")
	}
	return many(n-1, "pc\x00") + "n\x00\x01"
}

// long is a term of n bytes, few of them deep: at least 44.
func long(n int) api.Term {
	var t api.Term
	for n > 87 {
		t += "pc\x28" + many(40, "a")
		n -= 43
	}
	if n > 42 {
		m := n - 42 - 1
		t += "p"
		return t + filled(m) + filled(42)
	}
	return t + filled(n)
}

// filled is a constant of n bytes in all, or one in hashes, where no constant is so small or so great.
func filled(n int) api.Term {
	h := max(0, n-42)
	return many(h, "h") + "c" + api.Term([]byte{byte(n - h - 2)}) + many(n-h-2, "b")
}

// good are texts of terms that may be, with how many are in each.
func good() []struct {
	t    api.Term
	subs int
} {
	return []struct {
		t    api.Term
		subs int
	}{
		{"n\x00\x00", 1},
		{"n\xff\xff", 1},
		{"nnn", 1},
		{"c\x00", 1},
		{"c\x01a", 1},
		{"c\x02nn", 1},
		{"c\x03\x00\xff\x80", 1},
		{"c\x28" + many(40, "h"), 1},
		{"hc\x00", 2},
		{"hhhn\x01\x02", 4},
		{"dn\x00\x01c\x00", 3},
		{"mn\x00\x01c\x00", 3},
		{"sn\x00\x01c\x00", 3},
		{"pn\x00\x01c\x00", 3},
		{"pc\x00c\x00", 3},
		{"spn\x00\x01c\x00hn\x00\x02", 6},
		{"phn\x00\x02spn\x00\x01c\x00mc\x00c\x00", 10},
		{many(59, "h") + "n\x00\x01", 60},
		{ladder(60, true), 119},
		{ladder(60, false), 119},
		{long(2000), 93},
	}
}

// noTerms are texts that are no term's.
func noTerms() []api.Term {
	return []api.Term{
		"", "\x00", "x", "N", "\xff", "n", "n\x01", "c", "c\x01", "c\x02a", // of no kind, or at an end too early
		"c\x29" + many(41, "a"), "c\xff" + many(255, "a"), "c\x80" + many(128, "a"), "c\x28" + many(39, "a"),
		"h", "hh", "hx", "hn\x01", "d", "m", "s", "p",
		"dn\x00\x01", "mn\x00\x01", "sn\x00\x01", "pn\x00\x01", "pn\x00\x01c", "pn\x00\x01x", "pxn\x00\x01", "phc\x00",
		"n\x00\x01\x00", "n\x00\x01n\x00\x01", "c\x00\x00", "c\x00c\x00", "hc\x00c\x00", "pc\x00c\x00c\x00", "c\x01ab", // on too long
		" n\x00\x01", "pc\x00 c\x00",
	}
}

// tooGreat are the texts of terms that may not be.
func tooGreat() []api.Term {
	return []api.Term{many(60, "h") + "c\x00", many(61, "h") + "c\x00", ladder(61, true), ladder(61, false), "p" + many(60, "h") + "c\x00c\x00", many(1998, "h") + "c\x00", long(2001), long(3000)}
}

// some terms, the same in every run.
func some(t *testing.T, n int) []api.Term {
	t.Helper()
	s := uint64(88172645463325252)
	next := func(below int) int {
		s ^= s << 13
		s ^= s >> 7
		s ^= s << 17
		return int(s % uint64(below))
	}
	var out []api.Term
	for len(out) < n {
		switch k := next(8); {
		case len(out) < 4 || k == 0:
			out = append(out, NewNonce(uint16(next(1<<16))))
		case k == 1:
			out = append(out, constant(t, string(many(next(5), "n"))))
		default:
			kind := kinds[next(len(kinds))]
			l := []api.Term{out[next(len(out))], out[next(len(out))]}[:partsOf(kind)]
			if x, e := Make(kind, l...); e == api.OK && len(x) < 60 {
				out = append(out, x)
			}
		}
	}
	return out
}

// P3.1

func TestCheckOK(t *testing.T) {
	for _, g := range good() {
		if e := Check(g.t); e != api.OK {
			t.Errorf("Check(%q): %d", g.t, e)
		}
	}
}

func TestCheckErrForm(t *testing.T) {
	for _, x := range noTerms() {
		if e := Check(x); e != api.ErrForm {
			t.Errorf("Check(%q): %d", x, e)
		}
	}
}

func TestCheckOfLong(t *testing.T) {
	for _, n := range []int{1998, 1999, 2000, 2001, 2002, 4000} {
		want := api.OK
		if n > 2000 {
			want = api.ErrBig
		}
		x := long(n)
		if len(x) != n {
			t.Fatalf("not %d bytes: %d", n, len(x))
		}
		if e := Check(x); e != want {
			t.Errorf("%d bytes: %d", n, e)
		}
	}
}

func TestCheckOfDeep(t *testing.T) {
	for _, first := range []bool{false, true} {
		for n, want := range map[int]api.Errno{59: api.OK, 60: api.OK, 61: api.ErrBig, 62: api.ErrBig, 500: api.ErrBig} {
			if e := Check(ladder(n, first)); e != want {
				t.Errorf("%d deep, by first parts %v: %d", n, first, e)
			}
		}
	}
	if e := Check("p" + many(58, "h") + "c\x00" + many(58, "h") + "c\x00"); e != api.OK {
		t.Errorf("60 deep in both parts: %d", e)
	}
}

func TestCheckFirstError(t *testing.T) {
	for _, c := range []struct {
		what string
		t    api.Term
		want api.Errno
	}{
		{"too long, no term's, too deep", many(2001, "h"), api.ErrBig},
		{"too long, no term's", many(2001, "x"), api.ErrBig},
		{"too long, a term's", long(2001), api.ErrBig},
		{"no term's, too deep", many(2000, "h"), api.ErrForm},
		{"no term's, as it goes on, too deep", many(60, "h") + "c\x00x", api.ErrForm},
		{"no term's, as a second part is none, too deep", "p" + many(60, "h") + "c\x00x", api.ErrForm},
		{"no term's, 61 deep where it ends", many(60, "h") + "n\x00", api.ErrForm},
		{"of 2000 bytes, too deep", many(1998, "h") + "c\x00", api.ErrBig},
		{"too deep alone", many(60, "h") + "c\x00", api.ErrBig},
	} {
		if e := Check(c.t); e != c.want {
			t.Errorf("%s: %d", c.what, e)
		}
	}
}

// By its fault a reader's giving up is told apart from any other panic.
func TestReaderGivesUpWithAFault(t *testing.T) {
	defer func() {
		if f, is := recover().(fault); !is || f.why != api.ErrForm {
			t.Errorf("a reader gave up with %v, %v", f, is)
		}
	}()
	r := reader{text: "h"}
	r.term()
}

// P3.2

func TestNewNonce(t *testing.T) {
	for n, want := range map[uint16]api.Term{0: "n\x00\x00", 1: "n\x00\x01", 255: "n\x00\xff", 256: "n\x01\x00", 258: "n\x01\x02", 0x8000: "n\x80\x00", 0xffff: "n\xff\xff"} {
		if x := NewNonce(n); x != want || Check(x) != api.OK {
			t.Errorf("NewNonce(%d): %q", n, x)
		}
	}
}

func TestNewConst(t *testing.T) {
	for s, want := range map[string]api.Term{"": "c\x00", "a": "c\x01a", "n\x00\xff": "c\x03n\x00\xff", "\u00e9": "c\x02\xc3\xa9", strings.Repeat("a", 40): "c\x28" + many(40, "a")} {
		if x, e := NewConst(s); x != want || e != api.OK || Check(x) != api.OK {
			t.Errorf("NewConst(%q): %q, %d", s, x, e)
		}
	}
	for _, n := range []int{41, 42, 255, 256, 257, 296, 3000} {
		if x, e := NewConst(strings.Repeat("a", n)); x != "" || e != api.ErrBig {
			t.Errorf("NewConst of %d bytes: %q, %d", n, x, e)
		}
	}
}

func TestExample(t *testing.T) {
	n := NewNonce(258)
	if x := made(t, Pair, n, constant(t, "a")); n != "n\x01\x02" || x != "pn\x01\x02c\x01a" {
		t.Errorf("%q, %q", n, x)
	}
}

func TestMake(t *testing.T) {
	n, c := NewNonce(7), constant(t, "ab")
	for kind, want := range map[byte]api.Term{Derive: "dn\x00\x07c\x02ab", Mac: "mn\x00\x07c\x02ab", Seal: "sn\x00\x07c\x02ab", Pair: "pn\x00\x07c\x02ab"} {
		if x := made(t, kind, n, c); x != want {
			t.Errorf("Make(%q): %q", kind, x)
		}
	}
	if x := made(t, Hash, c); x != "hc\x02ab" {
		t.Errorf("hash: %q", x)
	}
	if x := made(t, Pair, c, c); x != "pc\x02abc\x02ab" {
		t.Errorf("of equal ones: %q", x)
	}
}

func fails(t *testing.T, want api.Errno, kind byte, parts ...api.Term) {
	t.Helper()
	if x, e := Make(kind, parts...); x != "" || e != want {
		t.Errorf("Make(%q, %q): %q, %d, not %d", kind, parts, x, e, want)
	}
}

func TestMakeOfNoKind(t *testing.T) {
	n := NewNonce(1)
	for k := range 256 {
		if kind := byte(k); !slices.Contains(kinds, kind) {
			fails(t, api.ErrArg, kind)
			fails(t, api.ErrArg, kind, n)
			fails(t, api.ErrArg, kind, n, n)
			fails(t, api.ErrArg, kind, n, n, n)
			fails(t, api.ErrArg, kind, "", long(2001))
		}
	}
}

func TestMakeOfTooFewOrTooMany(t *testing.T) {
	n := NewNonce(1)
	for _, kind := range kinds {
		for have := range 5 {
			if have != partsOf(kind) {
				fails(t, api.ErrArg, kind, slices.Repeat([]api.Term{n}, have)...)
				fails(t, api.ErrArg, kind, slices.Repeat([]api.Term{"x"}, have)...)
				fails(t, api.ErrArg, kind, slices.Repeat([]api.Term{long(2001)}, have)...)
			}
		}
		fails(t, api.ErrArg, kind, []api.Term{}...)
	}
}

func TestMakeOfPartsThatMayNotBe(t *testing.T) {
	n := NewNonce(1)
	for _, bad := range append(noTerms(), tooGreat()...) {
		want := Check(bad)
		fails(t, want, Hash, bad)
		for _, kind := range kinds[1:] {
			fails(t, want, kind, bad, n)
			fails(t, want, kind, n, bad)
			fails(t, want, kind, bad, "x")
			fails(t, want, kind, bad, long(2001))
			fails(t, want, kind, bad, many(60, "h")+n)
		}
	}
	// A later part's fault comes ahead of the whole's size.
	fails(t, api.ErrForm, Pair, long(2000), "x")
	fails(t, api.ErrForm, Pair, ladder(60, true), "")
}

func TestMakeOfOneThatMayNotBe(t *testing.T) {
	n := NewNonce(1)
	if x := made(t, Hash, long(1999)); len(x) != 2000 {
		t.Errorf("hash: %d bytes", len(x))
	}
	fails(t, api.ErrBig, Hash, long(2000))
	for _, kind := range kinds[1:] {
		if x := made(t, kind, n, long(1996)); len(x) != 2000 {
			t.Errorf("%q: %d bytes", kind, len(x))
		}
		fails(t, api.ErrBig, kind, n, long(1997))
		fails(t, api.ErrBig, kind, long(1997), n)
		fails(t, api.ErrBig, kind, long(2000), long(2000))
		made(t, kind, n, ladder(59, false))
		made(t, kind, ladder(59, true), n)
		fails(t, api.ErrBig, kind, n, ladder(60, false))
		fails(t, api.ErrBig, kind, ladder(60, true), n)
	}
	made(t, Hash, ladder(59, true))
	fails(t, api.ErrBig, Hash, ladder(60, true))
}

// P3.3

func TestErrorsOfCheck(t *testing.T) {
	n := NewNonce(1)
	for _, bad := range append(noTerms(), tooGreat()...) {
		want := Check(bad)
		if k, l, e := Parts(bad); k != 0 || len(l) != 0 || e != want {
			t.Errorf("Parts(%q): %q, %q, %d", bad, k, l, e)
		}
		if l, e := Subs(bad); len(l) != 0 || e != want {
			t.Errorf("Subs(%q): %q, %d", bad, l, e)
		}
		for _, other := range []api.Term{n, "sn\x00\x01c\x00", "sn\x00\x02c\x00"} {
			if x, e := Open(bad, other); x != "" || e != want {
				t.Errorf("Open(%q, %q): %q, %d", bad, other, x, e)
			}
			if x, e := Open(other, bad); x != "" || e != want {
				t.Errorf("Open(%q, %q): %q, %d", other, bad, x, e)
			}
		}
	}
}

func TestOpenAsksTheKeyFirst(t *testing.T) {
	for _, c := range []struct {
		key, t api.Term
		want   api.Errno
	}{
		{"x", long(2001), api.ErrForm},
		{long(2001), "x", api.ErrBig},
		{ladder(61, true), "", api.ErrBig},
		{ladder(61, true), "n\x00\x01", api.ErrBig},
		{"n\x00\x01", ladder(61, true), api.ErrBig},
	} {
		if x, e := Open(c.key, c.t); x != "" || e != c.want {
			t.Errorf("Open(%q, %q): %q, %d", c.key, c.t, x, e)
		}
	}
}

func TestParts(t *testing.T) {
	n, c := NewNonce(0x6868), constant(t, "hn")
	for _, one := range []api.Term{n, c, "c\x00", "nnn"} {
		if k, l, e := Parts(one); k != one[0] || len(l) != 0 || e != api.OK {
			t.Errorf("Parts(%q): %q, %q, %d", one, k, l, e)
		}
	}
	parts := []api.Term{n, c, made(t, Pair, n, c), made(t, Hash, n), made(t, Seal, made(t, Derive, n, c), made(t, Mac, c, n))}
	for _, a := range parts {
		if k, l, e := Parts(made(t, Hash, a)); k != Hash || !slices.Equal(l, []api.Term{a}) || e != api.OK {
			t.Errorf("hash of %q: %q, %q, %d", a, k, l, e)
		}
		for _, b := range parts {
			for _, kind := range kinds[1:] {
				if k, l, e := Parts(made(t, kind, a, b)); k != kind || !slices.Equal(l, []api.Term{a, b}) || e != api.OK {
					t.Errorf("%q of %q and %q: %q, %q, %d", kind, a, b, k, l, e)
				}
			}
		}
	}
}

func TestSubsOrder(t *testing.T) {
	for x, want := range map[api.Term][]api.Term{
		"n\x00\x01":   {"n\x00\x01"},
		"c\x02hn":     {"c\x02hn"},
		"hhc\x00":     {"hhc\x00", "hc\x00", "c\x00"},
		"pnhhc\x02pp": {"pnhhc\x02pp", "nhh", "c\x02pp"},
		"pc\x00c\x00": {"pc\x00c\x00", "c\x00", "c\x00"},
		"spn12hc\x00mdn34c\x01kn56": {
			"spn12hc\x00mdn34c\x01kn56",
			"pn12hc\x00", "n12", "hc\x00", "c\x00",
			"mdn34c\x01kn56", "dn34c\x01k", "n34", "c\x01k", "n56",
		},
	} {
		if l, e := Subs(x); e != api.OK || !slices.Equal(l, want) {
			t.Errorf("Subs(%q): %q, %d", x, l, e)
		}
	}
}

// subsByParts is what P3.3 says of Subs, by Parts.
func subsByParts(t *testing.T, x api.Term) []api.Term {
	t.Helper()
	_, parts, e := Parts(x)
	if e != api.OK {
		t.Fatalf("Parts(%q): %d", x, e)
	}
	l := []api.Term{x}
	for _, p := range parts {
		l = append(l, subsByParts(t, p)...)
	}
	return l
}

func TestSubsOfMany(t *testing.T) {
	for _, g := range good() {
		if l, e := Subs(g.t); e != api.OK || len(l) != g.subs || !slices.Equal(l, subsByParts(t, g.t)) {
			t.Errorf("Subs(%q): %d of %d, %d", g.t, len(l), g.subs, e)
		}
	}
	for _, x := range some(t, 300) {
		if l, e := Subs(x); e != api.OK || !slices.Equal(l, subsByParts(t, x)) {
			t.Errorf("Subs(%q): %q, %d", x, l, e)
		}
	}
}

func TestOpen(t *testing.T) {
	n, c := NewNonce(1), constant(t, "ab")
	keys := []api.Term{n, c, NewNonce(2), made(t, Derive, n, c), made(t, Hash, n), made(t, Seal, n, c)}
	for _, key := range keys {
		for _, in := range keys {
			x := made(t, Seal, key, in)
			if got, e := Open(key, x); got != in || e != api.OK {
				t.Errorf("Open(%q, %q): %q, %d", key, x, got, e)
			}
			for _, other := range append(slices.Clone(keys), x) {
				if other == key {
					continue
				}
				if got, e := Open(other, x); got != "" || e != api.ErrKey {
					t.Errorf("Open(%q, %q): %q, %d", other, x, got, e)
				}
			}
		}
	}
}

func TestOpenOfWhatIsNotSealed(t *testing.T) {
	n, c := NewNonce(1), constant(t, "ab")
	for _, x := range []api.Term{n, c, "c\x01s", made(t, Hash, made(t, Seal, n, c)), made(t, Derive, n, c), made(t, Mac, n, c), made(t, Pair, n, c), made(t, Pair, made(t, Seal, n, c), n)} {
		for _, key := range []api.Term{n, c, x} {
			if got, e := Open(key, x); got != "" || e != api.ErrForm {
				t.Errorf("Open(%q, %q): %q, %d", key, x, got, e)
			}
		}
	}
}

// P3.4

// madeOfItsParts: a term that is no nonce and no constant is what Make makes of its kind and its parts.
func madeOfItsParts(t *testing.T, x api.Term) {
	t.Helper()
	kind, l, e := Parts(x)
	if e != api.OK {
		t.Fatalf("Parts(%q): %d", x, e)
	}
	if kind == Nonce || kind == Const {
		return
	}
	if y := made(t, kind, l...); y != x {
		t.Fatalf("%q, made of its parts: %q", x, y)
	}
}

func TestMadeOfItsParts(t *testing.T) {
	for _, g := range good() {
		madeOfItsParts(t, g.t)
	}
	for _, x := range some(t, 1000) {
		madeOfItsParts(t, x)
	}
}

func TestUnlikePartsMakeUnlikeTerms(t *testing.T) {
	type by struct {
		kind byte
		a, b api.Term
	}
	l := some(t, 60)
	slices.Sort(l)
	l = slices.Compact(l)
	from := map[api.Term]by{}
	add := func(x api.Term, how by) {
		if old, have := from[x]; have {
			t.Fatalf("%q is made of %q and of %q", x, old, how)
		}
		from[x] = how
	}
	for _, a := range l {
		add(made(t, Hash, a), by{Hash, a, ""})
		for _, b := range l {
			for _, kind := range kinds[1:] {
				add(made(t, kind, a, b), by{kind, a, b})
			}
		}
	}
}

func TestUnlikeNoncesAndConstants(t *testing.T) {
	seen := map[api.Term]int{}
	for n := range 1 << 16 {
		seen[NewNonce(uint16(n))]++
	}
	for n := range 41 {
		seen[constant(t, string(many(n, "a")))]++
	}
	if len(seen) != 1<<16+41 {
		t.Errorf("%d unlike ones", len(seen))
	}
}

// Any text that is a term's is made of its parts, and Check is the one that tells.
func TestTextsOfAnyShape(t *testing.T) {
	letters := []byte("nchps\x00\x01\x02")
	var terms int
	var walk func(b []byte, more int)
	walk = func(b []byte, more int) {
		if x := api.Term(b); Check(x) == api.OK {
			terms++
			madeOfItsParts(t, x)
			for _, c := range letters { // and so none goes on
				if Check(x+api.Term([]byte{c})) != api.ErrForm {
					t.Fatalf("%q and %q", x, c)
				}
			}
		}
		if more == 0 {
			return
		}
		for _, c := range letters {
			walk(append(b, c), more-1)
		}
	}
	walk(nil, 6)
	if terms == 0 {
		t.Error("none was a term's")
	}
}

// P3.5

func TestNoBeginning(t *testing.T) {
	l := some(t, 300)
	for _, g := range good() {
		l = append(l, g.t)
	}
	for _, x := range l {
		for i := range len(x) {
			if e := Check(x[:i]); e != api.ErrForm {
				t.Fatalf("%d bytes of %q: %d", i, x, e)
			}
		}
	}
	for _, a := range l {
		for _, b := range l {
			if a != b && strings.HasPrefix(string(b), string(a)) {
				t.Fatalf("%q begins %q", a, b)
			}
		}
	}
}

// R6

func TestNothingIsShared(t *testing.T) {
	n, c := NewNonce(1), constant(t, "ab")
	parts := []api.Term{n, c}
	x := made(t, Pair, parts...)
	if !slices.Equal(parts, []api.Term{n, c}) {
		t.Errorf("Make changed its parts: %q", parts)
	}
	parts[0] = "x"
	_, l, _ := Parts(x)
	l[0], l[1] = "y", "z"
	subs, _ := Subs(x)
	subs[0] = "w"
	_, l2, _ := Parts(x)
	if subs2, _ := Subs(x); !slices.Equal(l2, []api.Term{n, c}) || !slices.Equal(subs2, []api.Term{x, n, c}) {
		t.Errorf("an answer is kept: %q, %q", l2, subs2)
	}
}
