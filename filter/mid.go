package filter

// Mid is the middle of a and b at each place that both have, and by how much a is greater.
func Mid(a, b []int) ([]int, []int) {
	count := min(len(a), len(b))
	m, s := make([]int, count), make([]int, count)
	for i := range count {
		s[i] = a[i] - b[i]
		m[i] = b[i] + half(s[i])
	}
	return m, s
}

// Unmid is the two lists of which Mid tells m and s.
func Unmid(m, s []int) ([]int, []int) {
	count := min(len(m), len(s))
	a, b := make([]int, count), make([]int, count)
	for i := range count {
		b[i] = m[i] - half(s[i])
		a[i] = b[i] + s[i]
	}
	return a, b
}

// half is n / 2, downwards.
func half(n int) int {
	return n >> 1
}
