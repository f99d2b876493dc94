package search

import (
	"lacquer/api"
	"lacquer/predict"
)

// What all predictors with coefficients have.
const (
	precision = 7
	shift     = 5
)

// predictors are those of a level, in their order, each as the Sub that it is of, without its Rice. They are made anew each time, for a Sub that is handed out has the memory of its coefficients for itself.
func predictors(level int) []api.Sub {
	var list []api.Sub
	for order := range maxFixed(level) + 1 {
		list = append(list, api.Sub{Kind: api.SubFixed, Order: order})
	}
	if level == 2 {
		list = append(list, lpc(31), lpc(60, -29), lpc(63, -31))
	}
	return list
}

// maxFixed is the greatest order of a level's fixed predictors.
func maxFixed(level int) int {
	if level == 0 {
		return 2
	}
	return 4
}

// lpc is a predictor with these coefficients.
func lpc(coefs ...int) api.Sub {
	return api.Sub{Kind: api.SubLpc, Order: len(coefs), Precision: precision, Shift: shift, Coefs: coefs}
}

// leftOver is what the Sub's predictor leaves over of l; an error, if l has fewer numbers than its order.
func leftOver(s api.Sub, l []int) ([]int, api.Errno) {
	if s.Kind == api.SubFixed {
		return predict.Fixed(s.Order, l)
	}
	return predict.Lpc(s.Coefs, s.Shift, l)
}

// coefsBits is how many bits tell the Sub's coefficients.
func coefsBits(s api.Sub) int {
	if s.Kind == api.SubFixed {
		return 0
	}
	return coefsHead + s.Order*s.Precision
}
