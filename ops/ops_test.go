package ops

import (
	"testing"

	"hornbeam/api"
)

func TestModes(t *testing.T) {
	for mode, op := range map[int]int{api.BranchLEQ: api.LessEq, api.BranchLT: api.Less, api.BranchGTE: api.GreatEq, api.BranchGT: api.Great, api.BranchEQ: api.Equal, api.BranchNEQ: api.NotEqual} {
		if OfMode(mode) != op || Mode(op) != mode {
			t.Error(mode, OfMode(mode), Mode(op))
		}
	}
	for _, none := range []int{-1, 0, api.Leaf, 99} {
		if OfMode(none) != 0 {
			t.Error(none, OfMode(none))
		}
	}
	for _, none := range []int{-1, 0, api.True, api.False, api.IsMissing, api.In} {
		if Mode(none) != 0 || Opposite(none) != 0 {
			t.Error(none, Mode(none), Opposite(none))
		}
	}
}

func TestOpposite(t *testing.T) {
	for op, want := range map[int]int{api.Less: api.GreatEq, api.LessEq: api.Great, api.Equal: api.NotEqual} {
		if Opposite(op) != want || Opposite(want) != op {
			t.Error(op, Opposite(op), Opposite(want))
		}
	}
}
