package find

import (
	"silverside/api"
)

// end is the rank of the end of a text, which is less than every byte.
const end = 0

// rankOf returns the rank of a byte.
func rankOf(b byte) int {
	return int(b) + 1
}

// byteOf returns the byte of a rank other than end.
func byteOf(rank int) byte {
	return byte(rank - 1)
}

// orderOf sorts the suffixes by their first 2 bytes, then by the first 4, 8 and so on. Each time, the ranks by as many bytes as are sorted so far make pairs, of the suffix and of what follows these bytes in it, that stand for twice as many bytes.
func orderOf(text string) []int {
	order, ranks := make([]int, len(text)), make([]int, len(text))
	for at := range len(text) {
		order[at], ranks[at] = at, rankOf(text[at])
	}
	for length := 1; length < len(text); length *= 2 {
		pair := func(at int) [2]int {
			if at+length < len(text) {
				return [2]int{ranks[at], ranks[at+length]}
			}
			return [2]int{ranks[at], end}
		}
		order = sorted(order, func(at int) int { return pair(at)[1] })
		order = sorted(order, func(at int) int { return pair(at)[0] })
		ranks = ranksOf(order, pair)
	}
	return order
}

// sorted puts the elements of a list into buckets by their ranks, from 0 to MaxTrace, and empties these one after the other. Elements of the same rank keep their order.
func sorted(list []int, rank func(element int) int) []int {
	var begin [api.MaxTrace + 2]int // where the elements of each rank begin
	for _, element := range list {
		begin[rank(element)+1]++
	}
	for r := range api.MaxTrace {
		begin[r+1] += begin[r]
	}
	result := make([]int, len(list))
	for _, element := range list {
		bucket := &begin[rank(element)]
		result[*bucket] = element
		*bucket++
	}
	return result
}

// ranksOf numbers the positions in the order of their pairs from 1 on. Those with the same pair have the same rank.
func ranksOf(order []int, pair func(at int) [2]int) []int {
	ranks := make([]int, len(order))
	rank := end
	for place, at := range order {
		if place == 0 || pair(at) != pair(order[place-1]) {
			rank++
		}
		ranks[at] = rank
	}
	return ranks
}

// overlapsOf goes through the suffixes from the longest on. Without their first byte, a suffix and the one before it in the order still overlap in the rest, so the next overlap is less by at most 1, and these bytes need not be compared again. The least suffix is reached only with an overlap of 0.
func overlapsOf(text string, order []int) []int {
	places := make([]int, len(order))
	for place, at := range order {
		places[at] = place
	}
	overlaps := make([]int, len(order))
	overlap := 0
	for at, place := range places {
		if place > 0 {
			overlap += common(text[at+overlap:], text[order[place-1]+overlap:])
			overlaps[place] = overlap
			overlap = max(overlap-1, 0)
		}
	}
	return overlaps
}

// common returns the number of bytes that two strings begin with in common.
func common(a, b string) int {
	n := 0
	for n < min(len(a), len(b)) && a[n] == b[n] {
		n++
	}
	return n
}
