package vote

import (
	"testing"

	"chantry/api"
	"chantry/count"
)

// onItsWay is a vote that is still to come to an honest member.
type onItsWay struct {
	to uint8
	v  aVote
}

// group is one broadcast among members, of whom the honest ones do as Take says, and the corrupt ones as they like.
type group struct {
	t               *testing.T
	next            func(below int) int
	members         api.Set
	honest, corrupt []uint8
	from            uint8
	sent            string // if from is honest
	cases           map[uint8]Case
	told            map[uint8][]string
	cast            map[uint8][4]int // how many of each kind
	way             []onItsWay
}

// mixed are l's elements in some order.
func mixed(next func(int) int, l []uint8) []uint8 {
	for i := len(l) - 1; i > 0; i-- {
		j := next(i + 1)
		l[i], l[j] = l[j], l[i]
	}
	return l
}

// newGroup has n members and as many corrupt ones as may be.
func newGroup(t *testing.T, next func(int) int, n int, fromIsHonest bool) *group {
	ids := mixed(next, count.List(0xffff))[:n]
	f := (n - 1) / 3
	g := &group{t: t, next: next, honest: ids[f:], corrupt: ids[:f], cases: map[uint8]Case{}, told: map[uint8][]string{}, cast: map[uint8][4]int{}}
	g.members, _ = count.Of(ids)
	if f == 0 || fromIsHonest {
		g.from, g.sent = g.honest[next(len(g.honest))], "sent"
		g.casts(g.from, Out{Send, g.sent})
	} else {
		g.from = g.corrupt[next(f)]
	}
	return g
}

func (g *group) isHonestFrom() bool { return g.sent != "" }

// casts puts an honest member's vote on its way to all honest ones, itself among them.
func (g *group) casts(who uint8, o Out) {
	n := g.cast[who]
	n[o.Kind]++
	g.cast[who] = n
	if n[o.Kind] > 1 {
		g.t.Fatalf("%d cast two votes of kind %d", who, o.Kind)
	}
	for _, to := range g.honest {
		g.way = append(g.way, onItsWay{to, aVote{o.Kind, who, o.Body}})
	}
}

// comes: a vote comes to an honest member, who casts what it is to cast.
func (g *group) comes(to uint8, v aVote) {
	a := take(g.cases[to], g.members, g.from, v)
	if a.e != api.OK && !sameAnswer(a, answer{next: g.cases[to], e: a.e}) {
		g.t.Fatalf("beside the error %d: %+v", a.e, a)
	}
	g.cases[to] = a.next
	for _, o := range a.out {
		g.casts(to, o)
	}
	if a.is {
		g.told[to] = append(g.told[to], a.body)
		g.agree(to)
	}
}

// agree holds P7.3 and P7.4 at each delivery, so that they hold in whatever votes came till then.
func (g *group) agree(to uint8) {
	if len(g.told[to]) != 1 {
		g.t.Fatalf("%d delivered %q", to, g.told[to])
	}
	body := g.told[to][0]
	for _, id := range g.honest {
		if len(g.told[id]) > 0 && g.told[id][0] != body {
			g.t.Fatalf("of %d members, %d delivered %q, %d %q", count.Size(g.members), to, body, id, g.told[id][0])
		}
	}
	if g.isHonestFrom() && body != g.sent {
		g.t.Fatalf("of %d members, %d delivered %q, which was never sent", count.Size(g.members), to, body)
	}
}

// step brings one of the votes that are on their way, whichever.
func (g *group) step() {
	if len(g.way) == 0 {
		return
	}
	i, last := g.next(len(g.way)), len(g.way)-1
	x := g.way[i]
	g.way[i] = g.way[last]
	g.way = g.way[:last]
	g.comes(x.to, x.v)
}

func (g *group) drain() {
	for len(g.way) > 0 {
		g.step()
	}
}

// all holds P7.5, once all that honest members cast came to all of them; it answers whether they delivered.
func (g *group) all() bool {
	some := 0
	for _, id := range g.honest {
		some += len(g.told[id])
	}
	if some != 0 && some != len(g.honest) {
		g.t.Fatalf("of %d members, %d of %d honest ones delivered: %v", count.Size(g.members), some, len(g.honest), g.told)
	}
	return some > 0
}

// lie is a corrupt member's vote, whatever it likes, to an honest one.
type lie func(g *group) onItsWay

func (g *group) someHonest() uint8 { return g.honest[g.next(len(g.honest))] }

func (g *group) someCorrupt() uint8 { return g.corrupt[g.next(len(g.corrupt))] }

// anything: any kind, of any body.
func anything(bodies []string) lie {
	return func(g *group) onItsWay {
		who := g.someCorrupt()
		kind := g.next(3) + 1
		if kind == Send && !g.isHonestFrom() {
			who = g.from
		}
		return onItsWay{g.someHonest(), aVote{kind, who, bodies[g.next(len(bodies))]}}
	}
}

// twoFaces: to some honest members one body, to the others another one. Which ones changes with cut.
func twoFaces(cut int, other string) lie {
	return func(g *group) onItsWay {
		x := anything([]string{"sent"})(g)
		for i, id := range g.honest {
			if id == x.to && i >= cut {
				x.v.body = other
			}
		}
		return x
	}
}

// toFew: one body, but to few of the honest ones.
func toFew(few int) lie {
	return func(g *group) onItsWay {
		x := anything([]string{"sent"})(g)
		if x.v.kind != Send {
			x.to = g.honest[g.next(few)]
		}
		return x
	}
}

// run mixes lies into what is on its way; often says how many lies come between two steps at most.
func (g *group) run(l lie, lies, often int) bool {
	if len(g.corrupt) > 0 {
		for range lies {
			x := l(g)
			g.comes(x.to, x.v)
			if often > 0 && g.next(often) == 0 {
				g.step()
			}
		}
	}
	g.drain()
	return g.all()
}

func runs(n int) int {
	if n > 7 {
		return 60
	}
	return 300
}

// P7.3, P7.4, P7.5

func TestHonestFrom(t *testing.T) {
	next := draw()
	for n := 1; n <= 16; n++ {
		for i := range runs(n) {
			g := newGroup(t, next, n, true)
			lies := []lie{anything([]string{"sent", "lie", ""}), anything([]string{"lie"}), twoFaces(next(n+1), "lie"), toFew(1)}
			if !g.run(lies[i%len(lies)], next(20*n), next(5)) {
				t.Fatalf("of %d members, nobody delivered what all honest ones echoed", n)
			}
		}
	}
}

func TestCorruptFrom(t *testing.T) {
	next := draw()
	for n := 4; n <= 16; n++ {
		delivered, not := 0, 0
		for i := range 2 * runs(n) {
			g := newGroup(t, next, n, false)
			honest := len(g.honest)
			lies := []lie{anything([]string{"sent", "lie"}), twoFaces(honest/2, "lie"), twoFaces(next(honest+1), "lie"), toFew(1 + next(honest)), anything([]string{"sent"}), anything([]string{"a", "b", "c", "d", ""})}
			if g.run(lies[i%len(lies)], next(30*n), next(7)) {
				delivered++
			} else {
				not++
			}
		}
		if delivered == 0 || not == 0 {
			t.Errorf("of %d members: %d runs with a delivery, %d without: too little was tried", n, delivered, not)
		}
	}
}

// Half of the honest ones are sent one body, half another one, and all corrupt ones vote for both: for each before those who have it.
func TestSplitInTwo(t *testing.T) {
	for n := 4; n <= 16; n++ {
		next := draw()
		for cut := range n - (n-1)/3 + 1 {
			for range 5 {
				g := newGroup(t, next, n, false)
				for i, to := range g.honest {
					body := "a"
					if i >= cut {
						body = "b"
					}
					g.comes(to, aVote{Send, g.from, body})
					for _, who := range g.corrupt {
						g.comes(to, aVote{Echo, who, body})
						g.comes(to, aVote{Ready, who, body})
					}
				}
				g.drain()
				g.all()
			}
		}
	}
}

// All corrupt ones help one honest member to deliver, and no other: all deliver nevertheless.
func TestHelpToOneAlone(t *testing.T) {
	next := draw()
	for n := 4; n <= 16; n++ {
		f, delivered := (n-1)/3, 0
		for many := range n - f + 1 { // how many honest ones are sent anything
			for helped := range n - f {
				g := newGroup(t, next, n, false)
				for _, to := range g.honest[:many] {
					g.comes(to, aVote{Send, g.from, "a"})
				}
				for _, who := range g.corrupt {
					g.comes(g.honest[helped], aVote{Echo, who, "a"})
					g.comes(g.honest[helped], aVote{Ready, who, "a"})
				}
				g.drain()
				if g.all() {
					delivered++
				}
			}
		}
		if delivered == 0 {
			t.Errorf("of %d members: never delivered", n)
		}
	}
}

// The corrupt ones come first, with votes of all kinds for what was never sent.
func TestLiesAheadOfAll(t *testing.T) {
	next := draw()
	for n := 1; n <= 16; n++ {
		for range 10 {
			g := newGroup(t, next, n, true)
			for _, to := range g.honest {
				for _, who := range g.corrupt {
					for _, body := range []string{"lie", "sent", "other"} {
						g.comes(to, aVote{Send, who, body})
						g.comes(to, aVote{Echo, who, body})
						g.comes(to, aVote{Ready, who, body})
					}
				}
			}
			if len(g.way) != len(g.honest) {
				t.Fatalf("of %d members: lies made honest ones vote: %v", n, g.way)
			}
			g.drain()
			if !g.all() {
				t.Fatalf("of %d members: not delivered", n)
			}
		}
	}
}

// Some honest members' votes are late: what was delivered without them is what they deliver.
func TestLateOnes(t *testing.T) {
	next := draw()
	for n := 4; n <= 16; n++ {
		for range 30 {
			g := newGroup(t, next, n, true)
			late := g.honest[next(len(g.honest))]
			for range 10 * n * n {
				if len(g.way) == 0 {
					break
				}
				i, last := next(len(g.way)), len(g.way)-1
				if g.way[i].to == late {
					continue
				}
				g.way[i], g.way[last] = g.way[last], g.way[i]
				x := g.way[last]
				g.way = g.way[:last]
				g.comes(x.to, x.v)
			}
			for _, who := range g.corrupt {
				g.comes(late, aVote{Echo, who, "lie"})
				g.comes(late, aVote{Ready, who, "lie"})
			}
			g.drain()
			if !g.all() {
				t.Fatalf("of %d members: not delivered", n)
			}
		}
	}
}
