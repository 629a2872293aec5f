package pack

import "chantry/real"

// reader takes fields from the front of rest. It gives up by a panic, as a fault may show deep in a field; Decode recovers it.
type reader struct {
	rest []byte
}

func giveUp() { panic("pack: no bytes of fields") }

func (r *reader) fields() []Field {
	n := int(r.one())
	if n > maxFields {
		giveUp()
	}
	var l []Field
	for range n {
		l = append(l, r.field())
	}
	if len(r.rest) > 0 {
		giveUp()
	}
	return l
}

func (r *reader) field() Field {
	switch r.one() {
	case Num:
		return Field{Kind: Num, Num: r.number()}
	case Text:
		return Field{Kind: Text, Text: r.text()}
	case Real:
		return Field{Kind: Real, Real: r.float()}
	}
	giveUp()
	return Field{}
}

func (r *reader) number() uint64 {
	n := int(r.one())
	if n > wordBytes {
		giveUp()
	}
	x := r.low(n)
	if bytesOf(x) != n { // it is told in more bytes than it needs
		giveUp()
	}
	return x
}

func (r *reader) text() string {
	n := r.number()
	if n > maxText {
		giveUp()
	}
	return string(r.take(int(n)))
}

func (r *reader) float() float64 {
	x, is := real.Decode(r.low(wordBytes))
	if !is {
		giveUp()
	}
	return x
}

// low takes a number of n bytes, the lowest one first.
func (r *reader) low(n int) uint64 {
	var x uint64
	for i := range n {
		x |= uint64(r.one()) << (8 * i)
	}
	return x
}

func (r *reader) one() byte { return r.take(1)[0] }

func (r *reader) take(n int) []byte {
	if n > len(r.rest) {
		giveUp()
	}
	b := r.rest[:n]
	r.rest = r.rest[n:]
	return b
}
