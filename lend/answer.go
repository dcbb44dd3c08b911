package lend

import (
	"slices"

	"jigworks/api"
)

// refutation is the panic of an answer that cannot be: the look that refutes it, or the number of looks if what is admitted does.
type refutation int

// refuted returns by what an answer is refuted, if it is.
func refuted(answer func()) (by int, ok bool) {
	defer func() {
		if r, is := recover().(refutation); is {
			by, ok = int(r), true
		}
	}()
	answer()
	return 0, false
}

// who returns who lost a piece in some truth.
func (b *books) who(piece int) set {
	var found set
	for who := range b.suspects[piece].each() {
		if b.stands(instead(b.suspects, piece, set(0).with(who)), b.Admits) {
			found = found.with(who)
		}
	}
	if found == 0 {
		panic(refutation(len(b.Looks)))
	}
	return found
}

// many returns how many pieces a person lost in some truth, from the least to the greatest number.
func (b *books) many(person int) api.Span {
	var found []int
	for n := range b.Pieces + 1 {
		if b.mayAdmit(person, n) && b.stands(b.suspects, instead(b.Admits, person, n)) {
			found = append(found, n)
		}
	}
	if len(found) == 0 {
		panic(refutation(len(b.Looks)))
	}
	return api.Span{Lo: slices.Min(found), Hi: slices.Max(found)}
}

// mayAdmit returns whether a person says nothing else than that it lost so many pieces.
func (b *books) mayAdmit(person, many int) bool {
	said := b.Admits[person]
	return said == api.Silent || said == many
}

// stands returns whether an answer is not refuted.
func (b *books) stands(suspects []set, admits []int) bool {
	_, ok := refuted(func() { b.share(suspects, admits) })
	return !ok
}

// instead returns a list in which an element is left out, and another one is in its place.
func instead[T any](l []T, at int, other T) []T {
	l = slices.Clone(l)
	l[at] = other
	return l
}
