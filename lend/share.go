package lend

import "jigworks/api"

// others is in the place of a person for all who admit no number: the silent persons, the library, and nobody.
const others = api.MaxReaders

// numbers is a number for each person, and one for the others.
type numbers [others + 1]int

// share gives each piece to one of its suspects, such that each person that admits a number has as many.
func (b *books) share(suspects []set, admits []int) {
	room := b.rooms(admits)
	var given [others + 1][api.MaxParts]int
	var many numbers
	var asked set
	var give func(piece int) bool
	give = func(piece int) bool {
		for who := range takers(suspects[piece], admits).each() {
			if asked.has(who) {
				continue
			}
			asked = asked.with(who)
			if many[who] < room[who] {
				given[who][many[who]] = piece
				many[who]++
				return true
			}
			for i := range many[who] {
				if give(given[who][i]) {
					given[who][i] = piece
					return true
				}
			}
		}
		return false
	}
	for piece := range suspects {
		asked = 0
		if !give(piece) {
			panic(refutation(len(b.Looks)))
		}
	}
}

// rooms returns how many pieces each one takes. As the others take just what no person admits, all rooms are full when each piece is given.
func (b *books) rooms(admits []int) numbers {
	var room numbers
	room[others] = b.Pieces
	for person, n := range admits {
		if n != api.Silent {
			room[person] = n
			room[others] -= n
		}
	}
	if room[others] < 0 {
		panic(refutation(len(b.Looks)))
	}
	return room
}

// takers returns suspects, with the others for those who admit no number.
func takers(suspects set, admits []int) set {
	var s set
	for who := range suspects.each() {
		if who < len(admits) && admits[who] != api.Silent {
			s = s.with(who)
		} else {
			s = s.with(others)
		}
	}
	return s
}
