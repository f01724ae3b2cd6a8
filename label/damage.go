package label

import (
	"slices"
)

// damage is a word that is to be mended.
//
// The place of a position is the power of 2 with which its byte counts. If the errors (the differences to a codeword) are y at the places x, the syndrome j is the sum of all y times x^j. So a polynomial that is 0 at a place, combined with consecutive syndromes, leaves nothing of the error there.
type damage struct {
	*tables
	word      []byte
	syndromes []byte
	isLost    [longest]bool
	losses    int
}

func newDamage(word string, p int, lost []int) *damage {
	d := &damage{tables: newTables(), word: []byte(word)}
	d.syndromes = d.valuesAtPowers(d.word, p)
	for _, i := range lost {
		if !d.isLost[i] {
			d.isLost[i] = true
			d.losses++
		}
	}
	return d
}

// compare returns at how many positions the word differs from another one, and reports whether that one is a near codeword.
func (d *damage) compare(other []byte) (changes int, isNear bool) {
	errors := 0
	for i, b := range other {
		if b != d.word[i] {
			changes++
			if !d.isLost[i] {
				errors++
			}
		}
	}
	p := len(d.syndromes)
	return changes, 2*errors+d.losses <= p && areZero(d.valuesAtPowers(other, p))
}

// mended returns the near codeword if there is one, and otherwise any word of the same length.
func (d *damage) mended() []byte {
	result := slices.Clone(d.word)
	if d.losses > len(d.syndromes) {
		return result
	}
	positions := d.suspects()
	all := d.withRoots(d.places(positions))
	for _, i := range positions {
		others := d.withoutRoot(all, d.place(i))
		rest := d.combine(others, d.syndromes, len(others)-1)
		result[i] ^= d.quotient(rest, d.value(others, d.place(i)))
	}
	return result
}

// suspects returns the lost positions and, if there is a near codeword, the others that have errors. They are at most as many as the syndromes.
func (d *damage) suspects() []int {
	positions := d.positions(func(i int) bool { return d.isLost[i] })
	known := d.withRoots(d.places(positions))
	left := []byte{}
	for at := d.losses; at < len(d.syndromes); at++ {
		left = append(left, d.combine(known, d.syndromes, at))
	}
	unknown := d.recurrence(left)
	return d.positions(func(i int) bool { return d.isLost[i] || d.value(unknown, d.place(i)) == 0 })
}

// positions returns the positions of the word that are chosen.
func (d *damage) positions(isChosen func(int) bool) []int {
	list := []int{}
	for i := range len(d.word) {
		if isChosen(i) {
			list = append(list, i)
		}
	}
	return list
}

func (d *damage) places(positions []int) []byte {
	list := []byte{}
	for _, i := range positions {
		list = append(list, d.place(i))
	}
	return list
}

func (d *damage) place(position int) byte {
	return d.power[len(d.word)-1-position]
}
