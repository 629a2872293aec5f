package know

import (
	"slices"

	"chantry/api"
	"chantry/term"
)

// mind is what somebody knows of the terms that are in view. No others need be thought of: who makes one that is in none of these, and takes it apart again, is left with what was known ahead of it.
type mind struct {
	view  map[api.Term]sight
	known map[api.Term]struct{}
	fresh []api.Term // known, and not yet asked what they lead to
}

// sight is how a term in view stands to the others.
type sight struct {
	kind   byte
	parts  []api.Term
	wholes []api.Term // those in view that it is a part of
}

// newMind has l in view, and knows it.
func newMind(l []api.Term) (*mind, api.Errno) {
	if len(l) > maxTerms {
		return nil, api.ErrBig
	}
	m := &mind{view: map[api.Term]sight{}, known: map[api.Term]struct{}{}}
	for _, t := range l {
		if e := m.see(t); e != api.OK {
			return nil, e
		}
		m.learn(t)
	}
	return m, api.OK
}

// see takes a term, and all that is in it, into view.
func (m *mind) see(t api.Term) api.Errno {
	subs, e := term.Subs(t)
	if e != api.OK {
		return e
	}
	for _, s := range slices.Backward(subs) { // so that the parts are in view ahead of their whole
		m.place(s)
	}
	return api.OK
}

// place puts a term, whose parts are in view, beside them.
func (m *mind) place(t api.Term) {
	if _, have := m.view[t]; have {
		return
	}
	kind, parts, _ := term.Parts(t)
	m.view[t] = sight{kind: kind, parts: parts}
	for _, p := range parts {
		s := m.view[p]
		s.wholes = append(s.wholes, t)
		m.view[p] = s
	}
	if kind == term.Const {
		m.learn(t)
	}
}

func (m *mind) knows(t api.Term) bool {
	_, is := m.known[t]
	return is
}

func (m *mind) learn(t api.Term) {
	if m.knows(t) {
		return
	}
	m.known[t] = struct{}{}
	m.fresh = append(m.fresh, t)
}

// think goes on till nothing that is known leads to more.
func (m *mind) think() {
	for len(m.fresh) > 0 {
		last := len(m.fresh) - 1
		t := m.fresh[last]
		m.fresh = m.fresh[:last]
		m.takeApart(t)
		m.putTogether(t)
	}
}

// takeApart learns what is to be had of a term that is known.
func (m *mind) takeApart(t api.Term) {
	s := m.view[t]
	switch s.kind {
	case term.Pair:
		m.learn(s.parts[0])
		m.learn(s.parts[1])
	case term.Seal:
		if m.knows(s.parts[0]) {
			m.learn(s.parts[1])
		}
	}
}

// putTogether learns what can be made with a term that is known.
func (m *mind) putTogether(t api.Term) {
wholes:
	for _, w := range m.view[t].wholes {
		if m.knows(w) {
			m.takeApart(w) // t may be the key that was missing
			continue
		}
		for _, p := range m.view[w].parts {
			if !m.knows(p) {
				continue wholes
			}
		}
		m.learn(w)
	}
}
