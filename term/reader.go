package term

import "chantry/api"

// reader goes through a term's text from left to right. It gives up by a panic with a fault, as one may show deep in a term; readWhole recovers it.
type reader struct {
	text api.Term
	at   int
}

// fault is what a reader gives up with: nothing else that panics has this type.
type fault struct {
	why api.Errno
}

// readWhole tells what is wrong with a text.
func readWhole(t api.Term) (why api.Errno) {
	defer func() {
		x := recover()
		if x == nil {
			return
		}
		f, gaveUp := x.(fault)
		if !gaveUp {
			panic(x) // not the text's fault, so no error of its may hide it
		}
		why = f.why
	}()
	r := reader{text: t}
	deep := r.term()
	if r.at < len(t) {
		panic(fault{api.ErrForm})
	}
	if deep > api.MaxDeep { // asked last: a text that is both no term's and deep is no term's
		panic(fault{api.ErrBig})
	}
	return api.OK
}

// term goes behind the term that begins here, and tells how deep it is.
func (r *reader) term() int {
	deep := 0
	for range partsOf(r.head()) {
		deep = max(deep, r.term())
	}
	return deep + 1
}

// head goes behind a term's kind and what belongs to that alone, to where its parts begin.
func (r *reader) head() byte {
	kind := r.one()
	switch kind {
	case Nonce:
		r.skip(nonceBytes)
	case Const:
		n := int(r.one())
		if n > maxConst {
			panic(fault{api.ErrForm})
		}
		r.skip(n)
	default:
		if partsOf(kind) == 0 {
			panic(fault{api.ErrForm})
		}
	}
	return kind
}

func (r *reader) one() byte {
	r.skip(1)
	return r.text[r.at-1]
}

func (r *reader) skip(n int) {
	if n > len(r.text)-r.at {
		panic(fault{api.ErrForm})
	}
	r.at += n
}
