package link

import (
	"slices"

	"chantry/api"
	"chantry/term"
)

const pieceBytes = 40 // as many as a constant may have

// text is all of a letter that its tag is of.
func text(x Letter) []byte {
	head := []byte{x.From, x.To, byte(x.Seq >> 24), byte(x.Seq >> 16), byte(x.Seq >> 8), byte(x.Seq)}
	return append(head, x.Body...)
}

// pieces are a text's constants, from the front.
func pieces(whole []byte) []api.Term {
	var l []api.Term
	for piece := range slices.Chunk(whole, pieceBytes) {
		l = append(l, constant(piece))
	}
	return l
}

// paired is one term of some, built from the back.
func paired(l []api.Term) api.Term {
	var whole api.Term
	for i, t := range slices.Backward(l) {
		if i == len(l)-1 {
			whole = t
			continue
		}
		// No error may come: the longest letter's 26 pieces and their pairs have 1083 bytes, and are 26 deep.
		whole, _ = term.Make(term.Pair, t, whole)
	}
	return whole
}

// constant has no error to tell: nothing here makes one of more bytes than a piece has.
func constant(b []byte) api.Term {
	t, _ := term.NewConst(string(b))
	return t
}
