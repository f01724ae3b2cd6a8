package label_test

import (
	"math"
	"math/rand"
	"slices"
	"testing"

	"silverside/api"
	"silverside/label"
)

// product is the chapter's definition: the product of polynomials modulo 2, reduced from its highest power down.
func product(a, b byte) byte {
	sum := 0
	for i := range 8 {
		for j := range 8 {
			sum ^= int(a>>i&1) * int(b>>j&1) << (i + j)
		}
	}
	for power := 14; power >= 8; power-- {
		if sum>>power&1 == 1 {
			sum ^= 285 << (power - 8)
		}
	}
	return byte(sum)
}

// power returns base to that power.
func power(base byte, exponent int) byte {
	result := byte(1)
	for range exponent {
		result = product(result, base)
	}
	return result
}

// values are those of a word's polynomial at 2^0 to 2^(p-1), as sums of coefficients times powers.
func values(word string, p int) []byte {
	list := make([]byte, p)
	for k := range p {
		x, xs := power(2, k), byte(1)
		for i := len(word) - 1; i >= 0; i-- {
			list[k] ^= product(word[i], xs)
			xs = product(xs, x)
		}
	}
	return list
}

// isCodeword is the chapter's definition.
func isCodeword(word string, p int) bool {
	return !slices.ContainsFunc(values(word, p), func(b byte) bool { return b != 0 })
}

// rootsAt returns the product of x + 2^i for all i from 0 to p-1 but the one that is left out.
func rootsAt(p, out int) []byte {
	result := []byte{1}
	for i := range p {
		if i != out {
			next := append(slices.Clone(result), 0)
			for k, c := range result {
				next[k+1] ^= product(c, power(2, i))
			}
			result = next
		}
	}
	return result
}

// codewords are all codewords of the length n: the multiples of the product of all x + 2^i. There are 256^(n-p).
func codewords(n, p int) []string {
	factor := rootsAt(p, -1)
	list := []string{string(make([]byte, n))}
	for shift := range n - p {
		longer := []string{}
		for _, word := range list {
			for c := range 256 {
				b := []byte(word)
				for k, f := range factor {
					b[shift+k] ^= product(byte(c), f)
				}
				longer = append(longer, string(b))
			}
		}
		list = longer
	}
	return list
}

// nearOf returns the data of the near codeword among all codewords, and at how many positions it differs from the word.
func nearOf(t *testing.T, all []string, word string, p int, lost []int) (string, int, api.Errno) {
	isLost := map[int]bool{}
	for _, i := range lost {
		isLost[i] = true
	}
	data, changes, e := "", 0, api.ErrNone
	for _, code := range all {
		differs, errors := 0, 0
		for i := range len(word) {
			if code[i] != word[i] {
				differs++
				if !isLost[i] {
					errors++
				}
			}
		}
		if 2*errors+len(isLost) <= p {
			if e == api.OK {
				t.Fatalf("two near codewords: %x, %d, %v", word, p, lost)
			}
			data, changes, e = code[:len(code)-p], differs, api.OK
		}
	}
	return data, changes, e
}

// damaged returns the word with other bytes at the positions.
func damaged(r *rand.Rand, word string, positions []int) string {
	b := []byte(word)
	for _, i := range positions {
		b[i] ^= byte(1 + r.Intn(255))
	}
	return string(b)
}

// randomText returns a string of that length.
func randomText(r *rand.Rand, length int) string {
	b := make([]byte, length)
	for i := range b {
		b[i] = byte(r.Intn(256))
	}
	return string(b)
}

// encoded returns a codeword with random data.
func encoded(t *testing.T, r *rand.Rand, n, p int) string {
	t.Helper()
	word, e := label.Encode(randomText(r, n-p), p)
	if e != api.OK || len(word) != n {
		t.Fatalf("Encode of %d bytes with %d: %x, %d", n-p, p, word, e)
	}
	return word
}

// parameters are a length of a word and a number of check bytes.
type parameters struct {
	n, p int
}

// validParameters are those at the ends of the ranges, and some between them.
func validParameters() []parameters {
	list := []parameters{}
	for _, p := range []int{0, 1, 2, 3, 4, 7, 16, 31, 63, 64} {
		for _, n := range []int{p + 1, p + 2, p + 9, 128, 254, 255} {
			list = append(list, parameters{n, p})
		}
	}
	return list
}

// invalidParameters each break one condition, or several.
func invalidParameters() []parameters {
	list := []parameters{{0, 0}, {0, 1}, {1, 1}, {63, 64}, {64, 64}, {2, 2}, {1, 2}, {256, 0}, {256, 64}, {257, 1}, {512, 2}, {100000, 8}, {0, -1}}
	for _, p := range []int{65, 66, 255, 256, 1<<32 + 1, math.MaxInt, math.MaxInt - 99, -1, -64, -1 << 32, math.MinInt} {
		list = append(list, parameters{1, p}, parameters{100, p}, parameters{255, p}, parameters{256, p})
	}
	return list
}
