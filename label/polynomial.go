package label

import (
	"slices"
)

// A polynomial is the list of its coefficients, that of the highest power first, as in a word.

// value returns the value of a polynomial at a point.
func (t *tables) value(polynomial []byte, at byte) byte {
	sum := byte(0)
	for _, c := range polynomial {
		sum = t.product(sum, at) ^ c
	}
	return sum
}

// withRoots returns the product of x - r for all roots r.
func (t *tables) withRoots(roots []byte) []byte {
	result := []byte{1}
	multiply := func(factor ...byte) {
		product := make([]byte, len(result)+len(factor)-1)
		for i, a := range result {
			for j, b := range factor {
				product[i+j] ^= t.product(a, b)
			}
		}
		result = product
	}
	for _, r := range roots {
		multiply(1, r)
	}
	return result
}

// withoutRoot divides a polynomial by x - root.
func (t *tables) withoutRoot(polynomial []byte, root byte) []byte {
	result := slices.Clone(polynomial[:len(polynomial)-1])
	for i := 1; i < len(result); i++ {
		result[i] ^= t.product(result[i-1], root)
	}
	return result
}

// valuesAtPowers returns the values of a polynomial at the first p powers of 2.
func (t *tables) valuesAtPowers(polynomial []byte, p int) []byte {
	values := make([]byte, p)
	for i := range p {
		values[i] = t.value(polynomial, t.power[i])
	}
	return values
}

// check returns the p bytes that make data a codeword: the rest of data and p zeros, divided by the polynomial that each codeword is a multiple of.
func (t *tables) check(data string, p int) []byte {
	divisor := t.withRoots(t.power[:p])
	rest := append([]byte(data), make([]byte, p)...)
	for i := range len(data) {
		t.add(rest[i:], rest[i], divisor)
	}
	return rest[len(data):]
}

// add adds factor times other to the beginning of list.
func (t *tables) add(list []byte, factor byte, other []byte) {
	for i, c := range other {
		list[i] ^= t.product(factor, c)
	}
}

// combine returns the sum of the products of the coefficients with the elements of list, from the position at backwards.
func (t *tables) combine(polynomial, list []byte, at int) byte {
	sum := byte(0)
	for i, c := range polynomial {
		sum ^= t.product(c, list[at-i])
	}
	return sum
}

// recurrence returns the coefficients, 1 first, of the shortest recurrence that list obeys: combined with list, they give 0 at each position that has enough elements before it (the algorithm of Berlekamp and Massey). Their polynomial has a degree of at most the length of list.
func (t *tables) recurrence(list []byte) []byte {
	now, before := []byte{1}, []byte{1}
	degree := 0
	for at := range list {
		before = slices.Insert(before, 0, 0)
		gap := t.combine(now, list, at)
		if gap == 0 {
			continue
		}
		next := make([]byte, max(len(now), len(before)))
		t.add(next, 1, now)
		t.add(next, gap, before)
		if 2*degree <= at {
			degree = at + 1 - degree
			before = t.scaled(now, t.quotient(1, gap))
		}
		now = next
	}
	return now
}

// scaled returns factor times a polynomial.
func (t *tables) scaled(polynomial []byte, factor byte) []byte {
	result := make([]byte, len(polynomial))
	t.add(result, factor, polynomial)
	return result
}
