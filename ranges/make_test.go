package ranges_test

// Rows of parts that the tests put.

// numbers is a fixed row of numbers that look like chance (SplitMix64).
type numbers uint64

func (r *numbers) next() uint64 {
	*r += 0x9e3779b97f4a7c15
	x := uint64(*r)
	x = (x ^ x>>30) * 0xbf58476d1ce4e5b9
	x = (x ^ x>>27) * 0x94d049bb133111eb
	return x ^ x>>31
}

func (r *numbers) below(n int) int { return int(r.next() % uint64(n)) }

// total is a total that may be, small ones as often as great ones.
func (r *numbers) total() int { return 1 + r.below(1<<r.below(17)) }

// part is a part of one of the kinds.
func (r *numbers) part(kind int) part {
	total := r.total()
	switch kind {
	case 0: // any
		from := r.below(total)
		return part{from, 1 + r.below(total-from), total, 0}
	case 1: // the narrowest
		return part{r.below(total), 1, total, 0}
	case 2: // the first one
		return part{0, 1, total, 0}
	case 3: // the last one
		return part{total - 1, 1, total, 0}
	case 4: // nearly all
		cut := min(2, total-1)
		return part{r.below(cut + 1), total - cut, total, 0}
	case 5: // all
		return part{0, total, total, 0}
	case 6: // the narrowest of the most
		return part{r.below(65536), 1, 65536, 0}
	case 7: // up to the end
		from := r.below(total)
		return part{from, total - from, total, 0}
	}
	width := 1 + r.below(16)
	return ofBits(r.below(1<<width), width)
}

// kinds is how many kinds of parts there are.
const kinds = 9

// row is so many parts of one kind, or of all kinds.
func (r *numbers) row(count, kind int) []part {
	row := make([]part, count)
	for i := range row {
		k := kind
		if kind == kinds {
			k = r.below(kinds)
		}
		row[i] = r.part(k)
	}
	return row
}

// ofFormula is so many parts as a formula has them.
func ofFormula(count int, formula func(n int) part) []part {
	row := make([]part, count)
	for i := range row {
		row[i] = formula(i)
	}
	return row
}

// modelBehind is the model behind a row.
func modelBehind(row []part) *encoderModel {
	m := newModel()
	for _, p := range row {
		m.put(p)
	}
	return m
}

// reaching is a part that brings low to just this, with a Shift behind it.
func reaching(m *encoderModel, low int) (part, bool) {
	for total := 65536; total > 0; total-- {
		one, away := m.span/total, low-m.low
		if one < 16777216 && away >= 0 && away%one == 0 && away/one < total {
			return part{away / one, 1, total, 0}, true
		}
	}
	return part{}, false
}

// narrowing is a part that brings the range to just this, ahead of the Shifts.
func narrowing(m *encoderModel, span int) (part, bool) {
	for total := 65536; total > 0; total-- {
		one := m.span / total
		if span%one == 0 && span/one <= total {
			return part{0, span / one, total, 0}, true
		}
	}
	return part{}, false
}

// rowWith is a row with a part that find finds behind others.
func rowWith(r *numbers, find func(m *encoderModel) (part, bool)) []part {
	for {
		row := r.row(r.below(20), kinds)
		if p, ok := find(modelBehind(row)); ok {
			return append(row, p)
		}
	}
}

// onTheEdge is a row behind which so many bytes of 255 are held, at the least, and a carry may still come or not.
func onTheEdge(r *numbers, held int) []part {
	row := rowWith(r, straddling)
	m := modelBehind(row)
	for m.count <= held {
		p, ok := straddling(m)
		if !ok {
			row = rowWith(r, straddling)
			m = modelBehind(row)
			continue
		}
		row = append(row, p)
		m.put(p)
	}
	return row
}

// straddling is a part within which low comes to 2^32: neither its first number nor its last one.
func straddling(m *encoderModel) (part, bool) {
	for total := 65536; total > 60000; total -= 7 {
		one, away := m.span/total, 4294967296-m.low
		if n := away / one; n > 0 && away%one > 0 && n < total-1 {
			return part{n, 1, total, 0}, true
		}
	}
	return part{}, false
}

// behindEdge is a part that lies all below where low comes to 2^32, or all above.
func behindEdge(m *encoderModel, above bool) (part, bool) {
	p, ok := straddling(m)
	if above {
		return part{p.from + 1, p.total - p.from - 1, p.total, 0}, ok
	}
	return part{0, p.from, p.total, 0}, ok
}
