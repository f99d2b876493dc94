package rice

// cut is how the residuals of a block stand in partitions.
type cut struct {
	parts int
	size  int // numbers that a partition has
	fewer int // numbers that the first one has not
}

// cutOf is the cut of a block into 2^power partitions, with a predictor of this order; false, if it may not be.
func cutOf(block, order, power int) (cut, bool) {
	if power < 0 || power > maxOrder || !areOf(block, order) {
		return cut{}, false
	}
	parts := 1 << power
	c := cut{parts: parts, size: block / parts, fewer: order}
	return c, block%parts == 0 && c.size >= order
}

// areOf says whether there is such a block, and such a predictor's order.
func areOf(block, order int) bool {
	return block >= 1 && block <= maxBlock && order >= 0 && order <= maxPredictor
}

// count is how many residuals there are in all.
func (c cut) count() int { return c.parts*c.size - c.fewer }

// part is the partition i of l. Its room ends where it ends, so that nothing that is done to it reaches the next one.
func (c cut) part(l []int, i int) []int {
	end := (i+1)*c.size - c.fewer
	from := max(end-c.size, 0)
	return l[from:end:end]
}
