// Package ops has what comparisons of models and modes of ensembles have to do with one another.
package ops

import "hornbeam/api"

// OfMode tells the comparison of a mode (0: it has none).
func OfMode(mode int) int {
	switch mode {
	case api.BranchLEQ:
		return api.LessEq
	case api.BranchLT:
		return api.Less
	case api.BranchGTE:
		return api.GreatEq
	case api.BranchGT:
		return api.Great
	case api.BranchEQ:
		return api.Equal
	case api.BranchNEQ:
		return api.NotEqual
	}
	return 0
}

// Mode tells the mode of a comparison (0: it is none).
func Mode(op int) int {
	for mode := api.BranchLEQ; mode <= api.BranchNEQ; mode++ {
		if OfMode(mode) == op {
			return mode
		}
	}
	return 0
}

// Opposite tells the comparison that is so of numbers just where one is not (0: it is none).
func Opposite(op int) int {
	switch op {
	case api.Less:
		return api.GreatEq
	case api.LessEq:
		return api.Great
	case api.Equal:
		return api.NotEqual
	case api.NotEqual:
		return api.Equal
	case api.GreatEq:
		return api.Less
	case api.Great:
		return api.LessEq
	}
	return 0
}
