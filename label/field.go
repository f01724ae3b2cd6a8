package label

import (
	"silverside/api"
)

// modulus is x^8 + x^4 + x^3 + x^2 + 1, by which products are reduced.
const modulus = 285

// order is the number of different powers of 2, which are all elements but 0.
const order = 255

// Mul returns the product of two elements. It goes by the definition, as tables for one product take longer than the product.
func Mul(a, b byte) byte {
	product, shifted := 0, int(a)
	for bit := range 8 {
		if b>>bit&1 == 1 {
			product ^= shifted
		}
		shifted <<= 1
		if shifted > order {
			shifted ^= modulus
		}
	}
	return byte(product)
}

// Inverse returns the element whose product with a is 1.
func Inverse(a byte) (byte, api.Errno) {
	if a == 0 {
		return 0, api.ErrNone
	}
	return newTables().quotient(1, a), api.OK
}

// tables makes many products fast: power holds 2^i at i, and log holds i at 2^i.
type tables struct {
	power [order]byte
	log   [order + 1]int
}

func newTables() *tables {
	t := &tables{}
	element := byte(1)
	for i := range order {
		t.power[i] = element
		t.log[element] = i
		element = Mul(element, 2)
	}
	return t
}

func (t *tables) product(a, b byte) byte {
	if a == 0 || b == 0 {
		return 0
	}
	return t.power[(t.log[a]+t.log[b])%order]
}

// quotient divides a by b, which is not 0.
func (t *tables) quotient(a, b byte) byte {
	if a == 0 {
		return 0
	}
	return t.power[(t.log[a]+order-t.log[b])%order]
}
