package hold

import (
	"math"
	"slices"
	"strconv"
	"strings"
	"testing"

	"chantry/api"
	"chantry/past"
)

// answer is all that Put answers.
type answer struct {
	next Hold
	told []Item
	e    api.Errno
}

func put(h Hold, x Item) answer {
	var a answer
	a.next, a.told, a.e = Put(h, x)
	return a
}

func sameHold(a, b Hold) bool { return a.Told == b.Told && slices.Equal(a.Wait, b.Wait) }

func sameAnswer(a, b answer) bool {
	return sameHold(a.next, b.next) && slices.Equal(a.told, b.told) && a.e == b.e
}

// copied holds a hold against changes to its list.
func copied(h Hold) Hold {
	h.Wait = append([]Item(nil), h.Wait...)
	return h
}

// answers fails unless Put answers want, and leaves h as it is.
func answers(t *testing.T, want answer, h Hold, x Item) Hold {
	t.Helper()
	before := copied(h)
	a := put(h, x)
	if !sameAnswer(a, want) {
		t.Errorf("%+v, %+v:\n%+v, not\n%+v", before, x, a, want)
	}
	if !sameHold(h, before) {
		t.Errorf("%+v was changed to %+v", before, h)
	}
	return a.next
}

// refuses fails unless Put answers the error, and beside it h as it is and nothing told.
func refuses(t *testing.T, e api.Errno, h Hold, x Item) {
	t.Helper()
	answers(t, answer{next: h, e: e}, h, x)
}

// isReady fails unless Ready answers so.
func isReady(t *testing.T, want bool, told api.Vec, x Item) {
	t.Helper()
	if is := Ready(told, x); is != want {
		t.Errorf("told %d: %t: %+v", told, is, x)
	}
}

// isRight fails unless Right answers so, and leaves h as it is; of one that may not be Put is to answer ErrArg.
func isRight(t *testing.T, want bool, h Hold, what string) {
	t.Helper()
	before := copied(h)
	if is := Right(h); is != want {
		t.Errorf("%s: %t: %+v", what, is, h)
	}
	if !sameHold(h, before) {
		t.Errorf("%s: %+v was changed to %+v", what, before, h)
	}
	if !want {
		refuses(t, api.ErrArg, h, item(9, api.Vec{}))
		refuses(t, api.ErrArg, h, item(9, api.Vec{3: 1}))
	}
}

// item is the next broadcast of one who knew so much.
func item(from uint8, knew api.Vec) Item {
	return Item{from, int(knew[from]), past.Body{Kind: past.Say, Past: knew, Text: "x"}}
}

// saying is x with another text.
func saying(x Item, text string) Item {
	x.Body.Text = text
	return x
}

// with is v with another number at one place.
func with(v api.Vec, place uint8, n uint16) api.Vec {
	v[place] = n
	return v
}

// all is a vector of one number at all places.
func all(n uint16) api.Vec {
	var v api.Vec
	for i := range v {
		v[i] = n
	}
	return v
}

// rising is a vector that has another number at each place.
func rising() api.Vec {
	var v api.Vec
	for i := range v {
		v[i] = uint16(60*i + 7)
	}
	return v
}

// behind are n items that all wait for the first one of member 5, in the order in which they are told once it comes.
func behind(n int) []Item {
	var l []Item
	for i := range n {
		l = append(l, item(5, api.Vec{5: uint16(i + 1)}))
	}
	return l
}

// backward are the same in the other order.
func backward(l []Item) []Item {
	l = slices.Clone(l)
	slices.Reverse(l)
	return l
}

// mayNotBe are items that may not be by their bodies, their senders or their numbers, and would be ready else where rising was told.
func mayNotBe() []Item {
	var l []Item
	good := item(2, rising())
	for _, kind := range []int{0, 4, -1, 257, 1<<32 + 1, math.MinInt} {
		x := good
		x.Body.Kind = kind
		l = append(l, x)
	}
	for _, n := range []int{401, 402, 9000} {
		l = append(l, saying(good, strings.Repeat("x", n)))
	}
	for _, n := range []uint16{1001, 1002, 65535} {
		l = append(l, item(2, with(rising(), 9, n)), item(9, with(rising(), 9, n)))
	}
	for _, from := range []uint8{16, 17, 18, 32, 128, 255} {
		l = append(l, Item{from, 0, good.Body}, Item{from, int(rising()[from%16]), good.Body})
	}
	for _, seq := range []int{-1, 0, 1, good.Seq - 1, good.Seq + 1, -good.Seq, good.Seq + 1<<16, good.Seq + 1<<32, math.MinInt, math.MaxInt} {
		l = append(l, Item{2, seq, good.Body})
	}
	return l
}

// draw gives numbers that are the same in every run.
func draw() func(below int) int {
	s := uint64(88172645463325252)
	return func(below int) int {
		s ^= s << 13
		s ^= s >> 7
		s ^= s << 17
		return int(s % uint64(below))
	}
}

func TestMost(t *testing.T) {
	var n int = Most
	var small uint8 = Most // the constant is of no type, as in the document
	if n != 64 || small != 64 {
		t.Errorf("%d, %d", n, small)
	}
}

// P10.1

func TestReadyWhereNothingWasTold(t *testing.T) {
	for from := range uint8(16) {
		isReady(t, true, api.Vec{}, item(from, api.Vec{}))
		for place := range uint8(16) {
			isReady(t, false, api.Vec{}, item(from, with(api.Vec{}, place, 1)))
			isReady(t, false, api.Vec{}, item(from, with(api.Vec{}, place, 1000)))
		}
	}
}

func TestReadyOfEachKindOfBody(t *testing.T) {
	for _, kind := range []int{past.Say, past.Want, past.Flush} {
		for _, text := range []string{"", "x", "\x00\xff", strings.Repeat("x", 400)} {
			isReady(t, true, rising(), Item{3, 187, past.Body{Kind: kind, Past: rising(), Text: text}})
			isReady(t, false, rising(), Item{3, 186, past.Body{Kind: kind, Past: with(rising(), 3, 186), Text: text}})
		}
	}
}

func TestReadyOfItemsThatMayNotBe(t *testing.T) {
	isReady(t, true, rising(), item(2, rising()))
	for _, x := range mayNotBe() {
		isReady(t, false, rising(), x)
		isReady(t, false, all(1000), x)
		isReady(t, false, all(65535), x)
		isReady(t, false, x.Body.Past, x)
	}
	isReady(t, false, api.Vec{}, Item{})
	isReady(t, false, all(1001), item(2, all(1001)))
	isReady(t, false, all(65535), item(2, all(65535)))
}

func TestReadyByNumber(t *testing.T) {
	for from := range uint8(16) {
		for _, told := range []uint16{0, 1, 2, 255, 256, 999, 1000} {
			for _, n := range []uint16{0, 1, 2, 254, 255, 256, 257, 998, 999, 1000, told + 1, told - 1} {
				x := item(from, with(api.Vec{}, from, n))
				isReady(t, n == told, with(api.Vec{}, from, told), x)
				isReady(t, n == told, with(all(1000), from, told), x)
				if n != told {
					isReady(t, false, with(all(1000), from, told), Item{from, int(told), x.Body})
				}
			}
		}
	}
}

func TestReadyByPast(t *testing.T) {
	for from := range uint8(16) {
		isReady(t, true, rising(), item(from, rising()))
		isReady(t, true, rising(), item(from, with(api.Vec{}, from, rising()[from])))
		for place := range uint8(16) {
			if place == from {
				continue
			}
			n := rising()[place]
			for m, want := range map[uint16]bool{0: true, 1: true, n - 1: true, n: true, n + 1: false, n + 2: false, 1000: false} {
				isReady(t, want, rising(), item(from, with(rising(), place, m)))
				isReady(t, want, rising(), item(from, with(with(api.Vec{}, from, rising()[from]), place, m)))
			}
			isReady(t, true, with(api.Vec{}, place, 1), item(from, api.Vec{}))
			isReady(t, true, with(api.Vec{}, place, 1), item(from, with(api.Vec{}, place, 1)))
			isReady(t, false, with(api.Vec{}, place, 1), item(from, with(api.Vec{}, place, 2)))
		}
	}
}

// Ready asks nothing of told itself: its numbers may be any.
func TestReadyWhereMuchWasTold(t *testing.T) {
	for _, n := range []uint16{1000, 1001, 65535} {
		isReady(t, true, with(all(n), 4, 3), item(4, with(all(1000), 4, 3)))
		isReady(t, true, with(all(n), 4, 3), item(4, api.Vec{4: 3}))
		isReady(t, false, with(all(n), 4, 3), item(4, api.Vec{4: 2}))
		isReady(t, n == 1000, all(n), item(4, all(1000)))
	}
	isReady(t, false, api.Vec{4: 1001}, Item{4, 1001, past.Body{Kind: past.Say, Past: api.Vec{4: 1001}}})
	isReady(t, false, api.Vec{4: 65535}, Item{4, -1, past.Body{Kind: past.Say, Past: api.Vec{4: 65535}}})
}

func TestRightOfTold(t *testing.T) {
	isRight(t, true, Hold{}, "nothing")
	isRight(t, true, Hold{Wait: []Item{}}, "an empty list")
	isRight(t, true, Hold{Told: rising()}, "some told")
	isRight(t, true, Hold{Told: all(1000)}, "all told")
	isRight(t, false, Hold{Told: all(1001)}, "too many told of all")
	for place := range uint8(16) {
		for n, want := range map[uint16]bool{0: true, 1: true, 999: true, 1000: true, 1001: false, 1002: false, 1024: false, 32768: false, 65535: false} {
			what := "told " + strconv.Itoa(int(n)) + " of " + strconv.Itoa(int(place))
			isRight(t, want, Hold{Told: with(api.Vec{}, place, n)}, what)
			isRight(t, want, Hold{Told: with(all(1000), place, n)}, what+" among many")
			isRight(t, want, Hold{Told: with(api.Vec{}, place, n), Wait: []Item{item((place+1)%16, with(api.Vec{}, (place+2)%16, 1))}}, what+" while one waits")
		}
	}
}

func TestRightOfSoManyThatWait(t *testing.T) {
	for n, want := range map[int]bool{0: true, 1: true, 2: true, 63: true, 64: true, 65: false, 66: false, 128: false, 999: false} {
		l := behind(n)
		isRight(t, want, Hold{Wait: l}, strconv.Itoa(n)+" wait")
		isRight(t, want, Hold{Wait: backward(l)}, strconv.Itoa(n)+" wait, the last one first")
		isRight(t, n == 0, Hold{Told: api.Vec{5: 1}, Wait: l}, strconv.Itoa(n)+" wait, of which one is ready")
	}
}

func TestRightOfManyEndsSoon(t *testing.T) {
	l := make([]Item, 1<<19)
	isRight(t, false, Hold{Wait: l}, "many that may not be")
	for i := range l {
		l[i] = item(uint8(i%16), with(api.Vec{}, uint8(i%16), uint16(1+i/16%1000)))
	}
	isRight(t, false, Hold{Wait: l}, "many that may be")
}

// waits fails unless Right answers so of a hold in which x waits, alone, and first, last and between others.
func waits(t *testing.T, want bool, told api.Vec, x Item, what string) {
	t.Helper()
	isRight(t, want, Hold{Told: told, Wait: []Item{x}}, what+", alone")
	var others []Item
	for _, from := range []uint8{0, 7, 15} {
		others = append(others, item(from, with(all(1000), from, 998)))
	}
	for i := range 4 {
		isRight(t, want, Hold{Told: told, Wait: slices.Insert(slices.Clone(others), i, x)}, what+", in place "+strconv.Itoa(i))
	}
}

func TestRightOfOneThatMayNotBe(t *testing.T) {
	for _, x := range mayNotBe() {
		waits(t, false, api.Vec{}, x, "one that may not be")
		waits(t, false, all(3), x, "one that may not be, by much")
	}
	waits(t, false, api.Vec{}, Item{}, "an item of nothing")
	waits(t, false, api.Vec{3: 1}, Item{3, 2, past.Body{Kind: past.Say, Past: api.Vec{3: 1}}}, "another number")
}

func TestRightOfOneThatIsReady(t *testing.T) {
	for from := range uint8(16) {
		told := with(all(5), from, 3)
		waits(t, false, told, item(from, told), "one that knew all")
		waits(t, false, told, item(from, with(api.Vec{}, from, 3)), "one that knew little")
		waits(t, false, api.Vec{}, item(from, api.Vec{}), "one that knew nothing")
		for place := range uint8(16) {
			if place != from {
				waits(t, true, told, item(from, with(told, place, 6)), "one that knew more at one place")
				waits(t, false, told, item(from, with(told, place, 4)), "one that knew less at one place")
			}
		}
	}
}

func TestRightByNumber(t *testing.T) {
	for from := range uint8(16) {
		told := with(all(5), from, 3)
		more := (from + 1) % 16
		for n, want := range map[uint16]bool{0: false, 1: false, 2: false, 3: false, 4: true, 5: true, 999: true, 1000: true} {
			waits(t, want, told, item(from, with(told, from, n)), "number "+strconv.Itoa(int(n)))
			waits(t, n >= 3, told, item(from, with(with(told, more, 6), from, n)), "number "+strconv.Itoa(int(n))+", that knew more of another one")
		}
	}
	waits(t, false, with(api.Vec{}, 3, 1000), item(3, api.Vec{3: 999}), "one below the last")
	waits(t, false, with(api.Vec{}, 3, 1000), item(3, api.Vec{3: 1000}), "the last")
	waits(t, true, with(api.Vec{}, 3, 1000), item(3, api.Vec{3: 1000, 4: 1}), "the last, that knew more of another one")
	waits(t, true, with(api.Vec{}, 3, 999), item(3, api.Vec{3: 1000}), "the last, ahead of its time")
}

func TestRightOfTwoAlike(t *testing.T) {
	x := item(3, api.Vec{3: 2})
	for _, y := range []struct {
		want bool
		x    Item
		what string
	}{
		{false, x, "two alike"},
		{false, saying(x, "y"), "one number of one member, with another text"},
		{false, item(3, api.Vec{3: 2, 4: 1}), "one number of one member, with another past"},
		{false, Item{3, 2, past.Body{Kind: past.Flush, Past: x.Body.Past}}, "one number of one member, of another kind"},
		{true, item(3, api.Vec{3: 1}), "one From, a lesser Seq"},
		{true, item(3, api.Vec{3: 3}), "one From, a greater Seq"},
		{true, item(2, api.Vec{2: 2}), "one Seq, a lesser From"},
		{true, item(4, api.Vec{4: 2}), "one Seq, a greater From"},
		{true, item(2, api.Vec{2: 3}), "From and Seq the other way about"},
	} {
		isRight(t, y.want, Hold{Wait: []Item{x, y.x}}, y.what)
		isRight(t, y.want, Hold{Wait: []Item{y.x, x}}, y.what+", the other one first")
		isRight(t, y.want, Hold{Wait: append(append([]Item{x}, behind(61)...), y.x)}, y.what+", far apart")
		isRight(t, y.want, Hold{Wait: append(append([]Item{y.x}, x), behind(62)...)}, y.what+", ahead of many")
		isRight(t, y.want, Hold{Told: with(all(1), 3, 0), Wait: []Item{item(0, api.Vec{2}), x, item(1, api.Vec{0, 2}), y.x}}, y.what+", where one was told of each of the others")
	}
}

// itemMay, ready and may are the chapter's words of items and holds.
func itemMay(x Item) bool {
	if x.Body.Kind != past.Say && x.Body.Kind != past.Want && x.Body.Kind != past.Flush || len(x.Body.Text) > 400 {
		return false
	}
	for _, n := range x.Body.Past {
		if n > 1000 {
			return false
		}
	}
	return x.From < 16 && x.Seq == int(x.Body.Past[x.From])
}

func ready(told api.Vec, x Item) bool {
	if !itemMay(x) || x.Seq != int(told[x.From]) {
		return false
	}
	for i := range 16 {
		if x.Body.Past[i] > told[i] {
			return false
		}
	}
	return true
}

func may(h Hold) bool {
	for _, n := range h.Told {
		if n > 1000 {
			return false
		}
	}
	for i, x := range h.Wait {
		if i >= 64 || !itemMay(x) || ready(h.Told, x) || x.Seq < int(h.Told[x.From]) {
			return false
		}
		for _, y := range h.Wait[:i] {
			if x.From == y.From && x.Seq == y.Seq {
				return false
			}
		}
	}
	return true
}

// anyTold is small, or near to the most that may be.
func anyTold(next func(int) int) api.Vec {
	var v api.Vec
	low := []int{0, 0, 0, 997}[next(4)]
	for i := range v {
		v[i] = uint16(low + next(4))
		if next(150) == 0 {
			v[i] = uint16([]int{0, 1000, 1001, 65535}[next(4)])
		}
	}
	return v
}

// anyItem is of one who knew about as much as was told, and mostly may be.
func anyItem(next func(int) int, told api.Vec) Item {
	from := uint8(next(4))
	if next(4) == 0 {
		return farItem(next, told)
	}
	told[from] += uint16(next(3))
	for i := range told {
		if next(3) == 0 && i != int(from) || next(30) == 0 {
			told[i] -= min(told[i], uint16(next(3)))
		}
		if next(16) == 0 {
			told[i] += uint16(next(3))
		}
	}
	x := item(from, told)
	x.Body.Kind = 1 + next(3)
	x.Body.Text = []string{"", "x", "y"}[next(3)]
	switch next(60) {
	case 0:
		x.Body.Kind = []int{0, 4, -1}[next(3)]
	case 1:
		x.Body.Text = strings.Repeat("x", 400+next(2))
	case 2:
		x.Body.Past[next(16)] = uint16(999 + next(3))
	case 3:
		x.From = uint8(next(18))
	case 4:
		x.Seq += next(3) - 1
	}
	return x
}

// farItem is far from what was told.
func farItem(next func(int) int, told api.Vec) Item {
	from := uint8(next(16))
	return item(from, with(told, from, uint16(next(1001))))
}

// anyHold is mostly one that may be, or nearly so.
func anyHold(next func(int) int) Hold {
	h := Hold{Told: anyTold(next)}
	n := []int{next(4), next(12), next(12), 62 + next(4), 64}[next(5)]
	for i := 0; len(h.Wait) < n && i < 200; i++ {
		x := anyItem(next, h.Told)
		if n > 12 {
			x = farItem(next, h.Told)
		}
		y := Hold{h.Told, append(slices.Clone(h.Wait), x)}
		if next(500) == 0 || may(y) {
			h = y
		}
	}
	return h
}

func TestReadyAndRightByTheWords(t *testing.T) {
	next := draw()
	seen := map[string]int{}
	for range 4000 {
		h := anyHold(next)
		want := may(h)
		if Right(h) != want {
			t.Fatalf("Right: not %t: %+v", want, h)
		}
		seen["right "+strconv.FormatBool(want)]++
		x := anyItem(next, h.Told)
		if want = ready(h.Told, x); Ready(h.Told, x) != want {
			t.Fatalf("Ready: not %t: %+v, %+v", want, h.Told, x)
		}
		seen["ready "+strconv.FormatBool(want)]++
	}
	for _, what := range []string{"right true", "right false", "ready true", "ready false"} {
		if seen[what] < 300 {
			t.Errorf("too few: %v", seen)
		}
	}
}

// P10.2

func TestPutOfOneThatIsReady(t *testing.T) {
	for from := range uint8(16) {
		x := item(from, api.Vec{})
		answers(t, answer{Hold{Told: with(api.Vec{}, from, 1)}, []Item{x}, api.OK}, Hold{}, x)
		told := rising()
		x = item(from, told)
		answers(t, answer{Hold{Told: with(told, from, told[from]+1)}, []Item{x}, api.OK}, Hold{Told: told}, x)
		x = item(from, with(api.Vec{}, from, told[from]))
		answers(t, answer{Hold{Told: with(told, from, told[from]+1)}, []Item{x}, api.OK}, Hold{Told: told}, x)
	}
}

func TestPutOfOneThatIsNot(t *testing.T) {
	told := rising()
	var wait []Item
	for from := range uint8(16) {
		other := (from + 3) % 16
		for _, x := range []Item{item(from, with(told, from, told[from]+1)), item(from, with(told, other, told[other]+1)), item(from, with(told, from, 1000))} {
			answers(t, answer{next: Hold{told, []Item{x}}}, Hold{Told: told}, x)
		}
		x := item(from, with(told, other, 1000))
		answers(t, answer{next: Hold{told, append(slices.Clone(wait), x)}}, Hold{told, wait}, x)
		wait = append(wait, x)
	}
	first := item(0, api.Vec{0: 9}) // behind the others, though its number and its sender are the least
	h := Hold{api.Vec{}, []Item{item(3, api.Vec{3: 12}), item(1, api.Vec{1: 14})}}
	answers(t, answer{next: Hold{api.Vec{}, append(slices.Clone(h.Wait), first)}}, h, first)
}

func TestPutOfItemsThatMayNotBe(t *testing.T) {
	for _, x := range mayNotBe() {
		for _, h := range []Hold{{}, {Told: rising()}, {Told: all(1000)}, {Wait: behind(64)}, {Told: api.Vec{2: 500}, Wait: behind(3)}} {
			refuses(t, api.ErrArg, h, x)
		}
	}
	refuses(t, api.ErrArg, Hold{}, Item{})
}

func TestPutOfOldOnes(t *testing.T) {
	for from := range uint8(16) {
		told := with(all(9), from, 3)
		for n := range uint16(6) {
			x := item(from, with(api.Vec{}, from, n))
			y := item(from, with(told, from, n))
			switch {
			case n < 3:
				refuses(t, api.ErrOld, Hold{Told: told}, x)
				refuses(t, api.ErrOld, Hold{Told: told}, y)
				refuses(t, api.ErrOld, Hold{told, []Item{item(from, with(told, from, 7))}}, x)
			case n == 3:
				answers(t, answer{Hold{Told: with(told, from, 4)}, []Item{x}, api.OK}, Hold{Told: told}, x)
				answers(t, answer{Hold{Told: with(told, from, 4)}, []Item{y}, api.OK}, Hold{Told: told}, y)
			default:
				answers(t, answer{next: Hold{told, []Item{x}}}, Hold{Told: told}, x)
			}
		}
	}
	refuses(t, api.ErrOld, Hold{Told: all(1000)}, item(2, api.Vec{2: 999}))
}

func TestPutOfOneThatWaits(t *testing.T) {
	x := item(3, api.Vec{3: 2})
	for _, l := range [][]Item{{x}, {item(0, api.Vec{2}), x}, {x, item(0, api.Vec{2})}, append(behind(61), x), append(behind(63), x)} {
		h := Hold{Wait: l}
		refuses(t, api.ErrOld, h, x)
		refuses(t, api.ErrOld, h, saying(x, "y"))
		refuses(t, api.ErrOld, h, item(3, api.Vec{1, 3: 2}))
		refuses(t, api.ErrOld, h, Item{3, 2, past.Body{Kind: past.Want, Past: x.Body.Past}})
	}
	h := Hold{Wait: []Item{x}}
	for _, y := range []Item{item(3, api.Vec{3: 1}), item(3, api.Vec{3: 3}), item(2, api.Vec{2: 2}), item(4, api.Vec{4: 2}), item(2, api.Vec{2: 3})} { // one From alone, or one Seq
		answers(t, answer{next: Hold{Wait: []Item{x, y}}}, h, y)
	}
	// one that would be ready now, while another one of its name waits
	h = Hold{Wait: []Item{item(3, api.Vec{3: 0, 4: 1})}}
	refuses(t, api.ErrOld, h, item(3, api.Vec{}))
}

func TestPutWhereMostWait(t *testing.T) {
	full := Hold{Wait: behind(64)}
	refuses(t, api.ErrFull, full, item(6, api.Vec{6: 1}))
	refuses(t, api.ErrFull, full, item(6, api.Vec{5: 1}))
	refuses(t, api.ErrFull, full, item(5, api.Vec{5: 65}))
	x := item(6, api.Vec{})
	answers(t, answer{Hold{api.Vec{6: 1}, full.Wait}, []Item{x}, api.OK}, full, x)
	x = item(5, api.Vec{})
	answers(t, answer{Hold{Told: api.Vec{5: 65}}, append([]Item{x}, full.Wait...), api.OK}, full, x)
	answers(t, answer{Hold{Told: api.Vec{5: 65}}, append([]Item{x}, full.Wait...), api.OK}, Hold{Wait: backward(full.Wait)}, x)

	nearly := Hold{Wait: behind(63)}
	y := item(6, api.Vec{6: 1})
	answers(t, answer{next: Hold{Wait: append(slices.Clone(nearly.Wait), y)}}, nearly, y)
	// room again, once one that waited is told
	h := answers(t, answer{Hold{api.Vec{6: 2}, nearly.Wait}, []Item{item(6, api.Vec{}), y}, api.OK}, Hold{Wait: append(slices.Clone(nearly.Wait), y)}, item(6, api.Vec{}))
	z := item(6, api.Vec{5: 1, 6: 2})
	answers(t, answer{next: Hold{api.Vec{6: 2}, append(slices.Clone(nearly.Wait), z)}}, h, z)
}

func TestWhichErrorComesFirst(t *testing.T) {
	full := Hold{api.Vec{6: 2}, behind(64)}
	old, waits, late := item(6, api.Vec{6: 1}), item(5, api.Vec{5: 9}), item(7, api.Vec{7: 1})
	refuses(t, api.ErrOld, full, old)
	refuses(t, api.ErrOld, full, waits)
	refuses(t, api.ErrFull, full, late)
	for _, x := range []Item{old, waits, late} {
		wrong := x
		wrong.Body.Kind = 4
		refuses(t, api.ErrArg, full, wrong)
		wrong = x
		wrong.Seq--
		refuses(t, api.ErrArg, full, wrong)
		wrong.Seq += 2
		refuses(t, api.ErrArg, full, wrong)
		for _, h := range []Hold{
			{with(full.Told, 9, 1001), full.Wait},
			{full.Told, append(behind(64), late)},
			{with(full.Told, 5, 1), full.Wait},
			{with(full.Told, 5, 2), full.Wait},
			{full.Told, append(behind(63), item(6, api.Vec{6: 1}))},
			{full.Told, append(behind(63), Item{})},
			{full.Told, append(behind(63), behind(1)...)},
		} {
			refuses(t, api.ErrArg, h, x)
			refuses(t, api.ErrArg, h, wrong)
		}
	}
}

func TestPutOfTheLastNumber(t *testing.T) {
	h := Hold{Told: all(998)}
	x, y := item(4, all(998)), item(4, with(all(998), 4, 999))
	h = answers(t, answer{Hold{all(998), []Item{y}}, nil, api.OK}, h, y)
	h = answers(t, answer{Hold{Told: with(all(998), 4, 1000)}, []Item{x, y}, api.OK}, h, x)
	refuses(t, api.ErrOld, h, y)
	// A body's past may mean 1000 of its sender's, and so its number be 1000: it is told as any other, and then too many are.
	z := item(4, api.Vec{4: 1000})
	h = answers(t, answer{Hold{Told: with(all(998), 4, 1001)}, []Item{z}, api.OK}, h, z)
	isRight(t, false, h, "too many told")
}

func TestPutLetsSeveralBeTold(t *testing.T) {
	x, y, z := item(0, api.Vec{}), item(0, api.Vec{1}), item(0, api.Vec{2})
	answers(t, answer{Hold{Told: api.Vec{3}}, []Item{x, y, z}, api.OK}, Hold{Wait: []Item{y, z}}, x)
	answers(t, answer{Hold{Told: api.Vec{3}}, []Item{x, y, z}, api.OK}, Hold{Wait: []Item{z, y}}, x)
	answers(t, answer{Hold{api.Vec{1}, []Item{z}}, []Item{x}, api.OK}, Hold{Wait: []Item{z}}, x)
	// one that waited for several members
	w := item(3, api.Vec{1, 1, 1})
	h := Hold{api.Vec{0, 1}, []Item{w}}
	h = answers(t, answer{Hold{api.Vec{1, 1}, []Item{w}}, []Item{x}, api.OK}, h, x)
	answers(t, answer{Hold{Told: api.Vec{1, 1, 1, 1}}, []Item{item(2, api.Vec{}), w}, api.OK}, h, item(2, api.Vec{}))
}

// Each time the first of Wait that is ready is told, whoever is ready since longer.
func TestPutTellsTheFirstEachTime(t *testing.T) {
	x := item(0, api.Vec{})
	a := item(1, api.Vec{1, 0, 1}) // behind b
	b := item(2, api.Vec{1})
	c := item(3, api.Vec{1})
	d := item(1, api.Vec{1, 1, 1, 1}) // behind a and c
	for _, s := range []struct{ wait, told []Item }{
		{[]Item{b, c}, []Item{x, b, c}},
		{[]Item{c, b}, []Item{x, c, b}},
		{[]Item{a, b, c}, []Item{x, b, a, c}},
		{[]Item{a, c, b}, []Item{x, c, b, a}},
		{[]Item{c, a, b}, []Item{x, c, b, a}},
		{[]Item{b, c, a}, []Item{x, b, c, a}},
		{[]Item{d, a, b, c}, []Item{x, b, a, c, d}},
		{[]Item{d, c, b, a}, []Item{x, c, b, a, d}},
		{[]Item{b, a, d, c}, []Item{x, b, a, c, d}},
		{[]Item{b, d, c, a}, []Item{x, b, c, a, d}},
	} {
		var told api.Vec
		for _, y := range s.told {
			told[y.From]++
		}
		answers(t, answer{Hold{Told: told}, s.told, api.OK}, Hold{Wait: s.wait}, x)
	}
}

// Of 16 that become ready at once the first that came is told first, whoever sent it.
func TestPutTellsInTheOrderInWhichTheyCame(t *testing.T) {
	next := draw()
	for range 200 {
		var l []Item
		for from := uint8(1); from < 16; from++ {
			l = append(l, item(from, api.Vec{1}))
		}
		mix(next, l)
		x := item(0, api.Vec{})
		answers(t, answer{Hold{Told: all(1)}, append([]Item{x}, l...), api.OK}, Hold{Wait: l}, x)
	}
}

// mix puts l's elements in some order.
func mix(next func(int) int, l []Item) {
	for i := len(l) - 1; i > 0; i-- {
		j := next(i + 1)
		l[i], l[j] = l[j], l[i]
	}
}

func TestPutLeavesTheOthersInTheirOrder(t *testing.T) {
	x := item(0, api.Vec{})
	a, b, c := item(9, api.Vec{1}), item(1, api.Vec{1}), item(9, api.Vec{9: 1})
	p, q, r, s := item(9, api.Vec{9: 3}), item(0, api.Vec{2}), item(4, api.Vec{4: 7}), item(1, api.Vec{0, 1, 1})
	for _, l := range []struct{ wait, told, left []Item }{
		{[]Item{p, q, r, s}, []Item{x}, []Item{p, q, r, s}},
		{[]Item{p, a, q, b, r, s}, []Item{x, a, b}, []Item{p, q, r, s}},
		{[]Item{c, s, b, p, a, r, q}, []Item{x, b, a, c}, []Item{s, p, r, q}},
		{[]Item{a, b, c, s}, []Item{x, a, b, c}, []Item{s}},
		{[]Item{s, r, q, p, c, b, a}, []Item{x, b, a, c}, []Item{s, r, q, p}},
	} {
		told := api.Vec{}
		for _, y := range l.told {
			told[y.From]++
		}
		answers(t, answer{Hold{told, l.left}, l.told, api.OK}, Hold{Wait: l.wait}, x)
	}
}

func TestTheOrderOfWaitIsKept(t *testing.T) {
	next := draw()
	for range 100 {
		l := behind(64)
		mix(next, l)
		var h Hold
		for i, x := range l {
			h = answers(t, answer{next: Hold{Wait: l[:i+1]}}, h, x)
		}
		x := item(1, api.Vec{})
		answers(t, answer{Hold{api.Vec{0, 1}, l}, []Item{x}, api.OK}, h, x)
	}
}

// putByTheWords is Put as the chapter says it, step by step.
func putByTheWords(h Hold, x Item) answer {
	refuse := func(e api.Errno) answer { return answer{next: h, e: e} }
	if !may(h) || !itemMay(x) {
		return refuse(api.ErrArg)
	}
	if x.Seq < int(h.Told[x.From]) {
		return refuse(api.ErrOld)
	}
	for _, y := range h.Wait {
		if y.From == x.From && y.Seq == x.Seq {
			return refuse(api.ErrOld)
		}
	}
	a := answer{next: copied(h)}
	if !ready(h.Told, x) {
		if len(h.Wait) >= 64 {
			return refuse(api.ErrFull)
		}
		a.next.Wait = append(a.next.Wait, x)
		return a
	}
	a.told = []Item{x}
	a.next.Told[x.From]++
	for i := 0; i < len(a.next.Wait); i++ {
		if y := a.next.Wait[i]; ready(a.next.Told, y) {
			a.told = append(a.told, y)
			a.next.Told[y.From]++
			a.next.Wait = append(a.next.Wait[:i:i], a.next.Wait[i+1:]...)
			i = -1
		}
	}
	return a
}

// byTheWords holds Put against the chapter's words, and counts what came of it.
type byTheWords struct {
	t    *testing.T
	seen map[api.Errno]int
	most int // told at once
}

func (w *byTheWords) put(h Hold, x Item) answer {
	w.t.Helper()
	want := putByTheWords(h, x)
	answers(w.t, want, h, x)
	w.seen[want.e]++
	w.most = max(w.most, len(want.told))
	return want
}

func (w *byTheWords) hasSeenAll() {
	w.t.Helper()
	for _, e := range []api.Errno{api.OK, api.ErrArg, api.ErrOld, api.ErrFull} {
		if w.seen[e] < 100 {
			w.t.Errorf("too few of %d: %v", e, w.seen)
		}
	}
	if w.most < 3 {
		w.t.Errorf("at most %d told at once", w.most)
	}
}

func TestPutByTheWordsIntoAnyHold(t *testing.T) {
	next := draw()
	w := &byTheWords{t: t, seen: map[api.Errno]int{}}
	for range 6000 {
		h := anyHold(next)
		x := anyItem(next, h.Told)
		if len(h.Wait) > 0 && next(6) == 0 {
			x = saying(h.Wait[next(len(h.Wait))], "y")
		}
		w.put(h, x)
	}
	w.hasSeenAll()
}

func TestPutByTheWordsOfManyItems(t *testing.T) {
	next := draw()
	w := &byTheWords{t: t, seen: map[api.Errno]int{}}
	for range 300 {
		var h Hold // of none told, or near to the most
		if next(3) == 0 {
			h.Told = all(uint16(990 + next(11)))
		}
		far := next(4) // of so many in five
		for range 200 {
			x := anyItem(next, h.Told)
			if next(5) < far {
				x = farItem(next, h.Told)
			}
			h = w.put(h, x).next
			if !Right(h) && slices.Max(h.Told[:]) <= 1000 {
				t.Fatalf("may not be: %+v", h)
			}
		}
	}
	w.hasSeenAll()
}

// The example

func TestExample(t *testing.T) {
	x, y := item(1, api.Vec{}), item(1, api.Vec{0, 1})
	h := answers(t, answer{next: Hold{Wait: []Item{y}}}, Hold{}, y)
	answers(t, answer{Hold{Told: api.Vec{0, 2}}, []Item{x, y}, api.OK}, h, x)
}

// R4, R6, R8

func TestAnswersAreTheSameEachTime(t *testing.T) {
	next := draw()
	for range 100 {
		h := anyHold(next)
		x := anyItem(next, h.Told)
		want := put(h, x)
		for range 20 {
			answers(t, want, h, x)
		}
	}
}

// roomy is h with room behind its list, into which nobody is to write, and that memory as a whole.
func roomy(h Hold) (Hold, []Item) {
	room := make([]Item, len(h.Wait)+4)
	copy(room, h.Wait)
	h.Wait = room[:len(h.Wait)]
	return h, room
}

// scribble writes over a list and the room behind it.
func scribble(l []Item) {
	l = l[:cap(l)]
	for i := range l {
		l[i] = Item{99, -5, past.Body{Kind: 9, Text: "scribbled"}}
	}
}

// asks are holds and items of all kinds: what is told, waits and is refused.
func asks() ([]Hold, []Item) {
	var l []Item
	for _, from := range []uint8{0, 5, 6, 3} {
		l = append(l, item(from, api.Vec{}), item(from, with(api.Vec{}, from, 1)), item(from, with(api.Vec{}, from, 2)))
	}
	l = append(l, Item{}, item(16-1, all(1001)))
	return []Hold{{}, {Wait: []Item{}}, {Told: api.Vec{5: 2}}, {Wait: behind(1)}, {Wait: behind(5)}, {Wait: backward(behind(64))}, {Wait: behind(65)}, {Told: all(1001), Wait: behind(2)}, {Told: api.Vec{5: 1}, Wait: behind(2)}}, l
}

func TestNothingIsWrittenInto(t *testing.T) {
	holds, items := asks()
	for _, h := range holds {
		for _, x := range items {
			h, room := roomy(h)
			before := slices.Clone(room)
			want := putByTheWords(h, x)
			answers(t, want, h, x)
			Right(h)
			if !slices.Equal(room, before) {
				t.Errorf("%+v, %+v: %+v, not %+v", h, x, room, before)
			}
		}
	}
}

func TestAnswersAreNewMemory(t *testing.T) {
	holds, items := asks()
	for _, h := range holds {
		for _, x := range items {
			h, room := roomy(h)
			before := slices.Clone(room)
			a := put(h, x)
			told := slices.Clone(a.told)
			scribble(a.next.Wait)
			if !slices.Equal(a.told, told) || !slices.Equal(room, before) {
				t.Errorf("%+v, %+v: Wait is shared", h, x)
			}
			a = put(h, x)
			wait := slices.Clone(a.next.Wait)
			scribble(a.told)
			if !slices.Equal(a.next.Wait, wait) || !slices.Equal(room, before) {
				t.Errorf("%+v, %+v: what is told is shared", h, x)
			}
			a = put(h, x)
			kept := answer{copied(a.next), slices.Clone(a.told), a.e}
			scribble(room)
			if !sameAnswer(a, kept) {
				t.Errorf("%+v: what was handed in is kept", x)
			}
		}
	}
}

func TestTwoFromOneHold(t *testing.T) {
	h := Hold{Wait: make([]Item, 0, 8)}
	l := behind(4)
	h = answers(t, answer{next: Hold{Wait: l[:1]}}, h, l[0])
	a, b := put(h, l[1]).next, put(h, l[2]).next
	c, d := put(a, l[3]).next, put(a, item(6, api.Vec{6: 1})).next
	for i, p := range []struct {
		h    Hold
		want []Item
	}{{h, l[:1]}, {a, l[:2]}, {b, []Item{l[0], l[2]}}, {c, []Item{l[0], l[1], l[3]}}, {d, []Item{l[0], l[1], item(6, api.Vec{6: 1})}}} {
		if !sameHold(p.h, Hold{Wait: p.want}) {
			t.Errorf("number %d: %+v", i, p.h)
		}
	}
	if e := put(a, item(5, api.Vec{})); len(e.told) != 3 || !sameHold(a, Hold{Wait: l[:2]}) {
		t.Errorf("%+v, then %+v", e, a)
	}
}

func TestEmptyListsAreAsNone(t *testing.T) {
	_, items := asks()
	for _, x := range items {
		for _, told := range []api.Vec{{}, rising(), all(1001)} {
			a := put(Hold{Told: told}, x)
			for _, l := range [][]Item{{}, make([]Item, 0, 9)} {
				if b := put(Hold{told, l}, x); !sameAnswer(a, b) {
					t.Errorf("%+v: %+v, %+v", x, a, b)
				}
			}
		}
	}
}
