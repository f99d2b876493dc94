package rice

import "lacquer/api"

// headWidth is how many bits Best's Rice has ahead of its partitions.
const headWidth = methodWidth + orderWidth

// bestMaxOrder is the greatest Order that Best looks at.
const bestMaxOrder = 4

// prices is how many bits the numbers of a partition have with each parameter of method 0, or none.
type prices [15]int

// Best is the Rice without escapes that has the fewest bits for l, and how many Encode would write.
//
// Two partitions next to each other are one of the Order below, so that only those of the greatest Order are gone through number by number. From it on downwards a Rice that is as good as the best so far takes its place.
func Best(block, order int, l []int) (api.Rice, int) {
	c, power := finest(block, order)
	if c.parts == 0 || len(l) != c.count() {
		return api.Rice{}, none
	}
	list := pricesOf(l, c)
	best, fewest := cheapest(list, power)
	for power > 0 {
		power--
		list = merged(list)
		// A number that no parameter takes is in every cut: either all of them have bits, or none has.
		if r, n := cheapest(list, power); n <= fewest {
			best, fewest = r, n
		}
	}
	return best, fewest
}

// finest is the cut into the most partitions that Best looks at, and its Order; the zero cut, if there is none.
func finest(block, order int) (cut, int) {
	for power := bestMaxOrder; power >= 0; power-- {
		if c, ok := cutOf(block, order, power); ok {
			return c, power
		}
	}
	return cut{}, 0
}

// pricesOf is the prices of each partition of l.
func pricesOf(l []int, c cut) []prices {
	list := make([]prices, c.parts)
	for i := range list {
		part := c.part(l, i)
		for k := range list[i] {
			list[i][k] = Cost(part, k)
		}
	}
	return list
}

// merged is the prices of each two partitions together; they take the place of the list's first half.
func merged(list []prices) []prices {
	half := list[:len(list)/2]
	for i := range half {
		half[i] = list[2*i].plus(list[2*i+1])
	}
	return half
}

// plus is the prices of two partitions together.
func (p prices) plus(q prices) prices {
	for k := range p {
		if p[k] == none || q[k] == none {
			p[k] = none
		} else {
			p[k] += q[k]
		}
	}
	return p
}

// cheapest is the Rice with the fewest bits whose partitions have these prices, and how many bits it has; none, if a partition cannot be coded.
func cheapest(list []prices, power int) (api.Rice, int) {
	r := api.Rice{Order: power, Params: make([]int, len(list)), Escapes: make([]int, len(list))}
	sum := headWidth
	for i, p := range list {
		k := p.least()
		if p[k] == none {
			return api.Rice{}, none
		}
		r.Params[i], r.Escapes[i] = k, coded
		sum += paramWidth(r.Method) + p[k]
	}
	return r, sum
}

// least is the least parameter of those with the fewest bits. One that cannot be taken is left as soon as another can.
func (p prices) least() int {
	best := 0
	for k, n := range p {
		if n != none && (p[best] == none || n < p[best]) {
			best = k
		}
	}
	return best
}
