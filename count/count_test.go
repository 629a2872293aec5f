package count

import (
	"math"
	"math/bits"
	"slices"
	"testing"

	"chantry/api"
)

// numbers are those of every n from 1 to 16, worked out by hand: Faulty, Echoes, Readies, Enough.
var numbers = [][4]int{
	1: {0, 1, 1, 1}, 2: {0, 2, 1, 1}, 3: {0, 2, 1, 1},
	4: {1, 3, 2, 3}, 5: {1, 4, 2, 3}, 6: {1, 4, 2, 3},
	7: {2, 5, 3, 5}, 8: {2, 6, 3, 5}, 9: {2, 6, 3, 5},
	10: {3, 7, 4, 7}, 11: {3, 8, 4, 7}, 12: {3, 8, 4, 7},
	13: {4, 9, 5, 9}, 14: {4, 10, 5, 9}, 15: {4, 10, 5, 9},
	16: {5, 11, 6, 11},
}

func four(n int) [4]int { return [4]int{Faulty(n), Echoes(n), Readies(n), Enough(n)} }

// sets calls f with every set that may be.
func sets(f func(s api.Set)) {
	for s := range 1 << 16 {
		f(api.Set(s))
	}
}

// P5.1

func TestNumbersOfEveryGroup(t *testing.T) {
	for n := 1; n <= 16; n++ {
		if x := four(n); x != numbers[n] {
			t.Errorf("of %d: %v, not %v", n, x, numbers[n])
		}
	}
}

func TestNumbersAsThePromiseSays(t *testing.T) {
	for n := 1; n <= 16; n++ {
		f := 0
		for 3*(f+1) <= n-1 {
			f++
		}
		echoes := 0
		for 2*echoes <= n+f {
			echoes++
		}
		if x := four(n); x != [4]int{f, echoes, f + 1, 2*f + 1} {
			t.Errorf("of %d: %v", n, x)
		}
	}
}

func TestNumbersBelowOne(t *testing.T) {
	for _, n := range []int{0, -1, -2, -3, -4, -16, -1000, math.MinInt32, math.MinInt + 1, math.MinInt} {
		if x := four(n); x != numbers[1] {
			t.Errorf("of %d: %v", n, x)
		}
	}
}

func TestNumbersAboveSixteen(t *testing.T) {
	for _, n := range []int{17, 18, 19, 20, 255, 256, 65536, math.MaxInt32, math.MaxInt - 1, math.MaxInt} {
		if x := four(n); x != numbers[16] {
			t.Errorf("of %d: %v", n, x)
		}
	}
}

func TestNumbersOfTheExamples(t *testing.T) {
	if x := four(4); x != [4]int{1, 3, 2, 3} {
		t.Errorf("of 4: %v", x)
	}
	if x := four(7); x != [4]int{2, 5, 3, 5} {
		t.Errorf("of 7: %v", x)
	}
}

// P5.2

func TestBitsOfMembers(t *testing.T) {
	value := api.Set(1)
	for id := range uint8(16) {
		if s := With(0, id); s != value {
			t.Errorf("With(0, %d): %#x", id, s)
		}
		if s := Without(0xffff, id); s != 0xffff-value {
			t.Errorf("Without(all, %d): %#x", id, s)
		}
		if !Has(value, id) || Has(0xffff-value, id) {
			t.Errorf("Has of %d", id)
		}
		value *= 2
	}
}

func TestMembersOfEverySet(t *testing.T) {
	sets(func(s api.Set) {
		for id := range uint8(16) {
			is := int(s)/(1<<id)%2 == 1
			with, without := s, s
			if is {
				without -= 1 << id
			} else {
				with += 1 << id
			}
			if Has(s, id) != is || With(s, id) != with || Without(s, id) != without {
				t.Fatalf("set %#x, member %d: %v, %#x, %#x", s, id, Has(s, id), With(s, id), Without(s, id))
			}
		}
	})
}

func TestOtherIds(t *testing.T) {
	for _, s := range []api.Set{0, 1, 0x8000, 0x8001, 0x5555, 0xffff} {
		for id := 16; id <= 255; id++ {
			if Has(s, uint8(id)) || With(s, uint8(id)) != s || Without(s, uint8(id)) != s {
				t.Fatalf("set %#x, id %d: %v, %#x, %#x", s, id, Has(s, uint8(id)), With(s, uint8(id)), Without(s, uint8(id)))
			}
		}
	}
}

func TestThereAlreadyAndNotThere(t *testing.T) {
	if s := With(0x8010, 15); s != 0x8010 {
		t.Errorf("With of one that is there: %#x", s)
	}
	if s := Without(0x8010, 5); s != 0x8010 {
		t.Errorf("Without of one that is not: %#x", s)
	}
	if s := With(0xffff, 0); s != 0xffff {
		t.Errorf("With of the full set: %#x", s)
	}
	if s := Without(0, 0); s != 0 {
		t.Errorf("Without of the empty set: %#x", s)
	}
}

func TestSizeAndListOfEverySet(t *testing.T) {
	sets(func(s api.Set) {
		var want []uint8
		for rest, id := int(s), uint8(0); rest > 0; rest, id = rest/2, id+1 {
			if rest%2 == 1 {
				want = append(want, id)
			}
		}
		if l := List(s); !slices.Equal(l, want) || Size(s) != len(want) {
			t.Fatalf("of %#x: %v, size %d", s, l, Size(s))
		}
	})
}

func TestListOfTheEmptySetAndTheFullOne(t *testing.T) {
	if l := List(0); len(l) != 0 || Size(0) != 0 {
		t.Errorf("of none: %v, size %d", l, Size(0))
	}
	want := []uint8{0, 1, 2, 3, 4, 5, 6, 7, 8, 9, 10, 11, 12, 13, 14, 15}
	if l := List(0xffff); !slices.Equal(l, want) || Size(0xffff) != 16 {
		t.Errorf("of all: %v, size %d", l, Size(0xffff))
	}
}

func TestListIsNewMemory(t *testing.T) {
	l := List(0x8011)
	for i := range l {
		l[i] = 99
	}
	if l := List(0x8011); !slices.Equal(l, []uint8{0, 4, 15}) {
		t.Errorf("after writing over a list: %v", l)
	}
}

// P5.3

func TestOf(t *testing.T) {
	all := []uint8{0, 1, 2, 3, 4, 5, 6, 7, 8, 9, 10, 11, 12, 13, 14, 15}
	back := slices.Clone(all)
	slices.Reverse(back)
	for _, c := range []struct {
		l    []uint8
		want api.Set
	}{
		{nil, 0}, {[]uint8{}, 0}, {[]uint8{0}, 1}, {[]uint8{15}, 0x8000},
		{[]uint8{15, 0, 4}, 0x8011}, {[]uint8{4, 15, 0}, 0x8011}, {all, 0xffff}, {back, 0xffff},
	} {
		if s, is := Of(c.l); !is || s != c.want {
			t.Errorf("Of(%v): %#x, %v", c.l, s, is)
		}
	}
}

func TestOfWhatMayNotBe(t *testing.T) {
	all := List(0xffff)
	for _, l := range [][]uint8{
		{16}, {17}, {31}, {32}, {128}, {255}, {0, 16}, {16, 0}, {1, 2, 255, 3},
		{0, 0}, {15, 15}, {1, 2, 1}, {3, 1, 2, 3, 4}, append(slices.Clone(all), 0), append(slices.Clone(all), 15),
		append(slices.Clone(all), 16), {16, 16}, {16, 1, 1}, {1, 1, 16}, {1, 16, 1}, {255, 0, 255}, make([]uint8, 1000),
	} {
		if s, is := Of(l); is || s != 0 {
			t.Errorf("Of(%v): %#x, %v", l, s, is)
		}
	}
}

func TestOfEveryIdAlone(t *testing.T) {
	for id := range 256 {
		var want api.Set
		if id < 16 {
			want = 1 << id
		}
		if s, is := Of([]uint8{uint8(id)}); s != want || is != (id < 16) {
			t.Errorf("Of(%d): %#x, %v", id, s, is)
		}
	}
}

func TestOfEveryList(t *testing.T) {
	sets(func(s api.Set) {
		l := List(s)
		slices.Reverse(l)
		if again, is := Of(l); !is || again != s {
			t.Fatalf("Of(%v): %#x, %v", l, again, is)
		}
	})
}

func TestOfLeavesItsListAlone(t *testing.T) {
	for _, l := range [][]uint8{{15, 0, 4}, {4, 0, 4}, {3, 200, 1}} {
		kept := slices.Clone(l)
		Of(l)
		if !slices.Equal(l, kept) {
			t.Errorf("Of changed %v to %v", kept, l)
		}
	}
}

// P5.4

// groups calls f with each set of size of n members.
func groups(n, size int, f func(s api.Set)) {
	for s := range 1 << n {
		if bits.OnesCount(uint(s)) == size {
			f(api.Set(s))
		}
	}
}

func TestTwoSetsOfEchoesMeet(t *testing.T) {
	for n := 1; n <= 16; n++ {
		// Members are alike, so that the first set may be the lowest ones; all second sets are gone through.
		a := api.Set(1)<<Echoes(n) - 1
		groups(n, Echoes(n), func(b api.Set) {
			if Size(a&b) <= Faulty(n) {
				t.Fatalf("of %d: %v and %v", n, List(a), List(b))
			}
		})
	}
}

func TestEveryTwoSetsOfEchoesMeetInSmallGroups(t *testing.T) {
	for n := 1; n <= 10; n++ {
		groups(n, Echoes(n), func(a api.Set) {
			groups(n, Echoes(n), func(b api.Set) {
				if Size(a&b) <= Faulty(n) {
					t.Fatalf("of %d: %v and %v", n, List(a), List(b))
				}
			})
		})
	}
}

func TestEchoesAreNoMoreThanTheyMustBe(t *testing.T) {
	for n := 1; n <= 16; n++ {
		fewer := Echoes(n) - 1
		low := api.Set(1)<<fewer - 1
		high := low << (n - fewer)
		if Size(low&high) > Faulty(n) {
			t.Errorf("of %d: %d echoes would do", n, fewer)
		}
	}
}

func TestEnoughHaveHonestOnes(t *testing.T) {
	for n := 1; n <= 16; n++ {
		enough := api.Set(1)<<Enough(n) - 1
		groups(n, Faulty(n), func(corrupt api.Set) {
			if Size(enough&^corrupt) <= Faulty(n) {
				t.Fatalf("of %d: %v, of whom %v are corrupt", n, List(enough), List(corrupt))
			}
		})
	}
}

func TestAllButTheCorruptDo(t *testing.T) {
	for n := 1; n <= 16; n++ {
		if honest := n - Faulty(n); honest < Echoes(n) || honest < Enough(n) {
			t.Errorf("of %d: %d are honest, %d echoes, %d enough", n, honest, Echoes(n), Enough(n))
		}
	}
}
