package pcm

// inTurn goes through planes that are all as long: of each place the planes in order. It ends where do says no, and says whether it came to the end.
func inTurn[T any](planes [][]T, do func(at *T) bool) bool {
	if len(planes) == 0 {
		return true
	}
	for i := range planes[0] {
		for _, plane := range planes {
			if !do(&plane[i]) {
				return false
			}
		}
	}
	return true
}

// blank is count planes of so many zero values. Each has memory of its own, so that none is to be seen in another.
func blank[T any](count, length int) [][]T {
	planes := make([][]T, count)
	for i := range planes {
		planes[i] = make([]T, length)
	}
	return planes
}

// cut is what planes have from the place from on up to to, in memory of its own.
func cut[T any](planes [][]T, from, to int) [][]T {
	part := blank[T](len(planes), to-from)
	for i, plane := range planes {
		copy(part[i], plane[from:to])
	}
	return part
}

// lay copies the planes of part into those of whole, from the place at on.
func lay[T any](whole, part [][]T, at int) {
	for i, plane := range part {
		copy(whole[i][at:], plane)
	}
}
