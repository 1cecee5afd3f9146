package target

import (
	"slices"
	"strings"
	"testing"

	"hornbeam/api"
)

func TestP1701Valid(t *testing.T) {
	for i, c := range []struct {
		t           api.Target
		valid, none bool
	}{
		{api.Target{}, true, true}, {api.Target{Min: "1"}, true, false}, {api.Target{Max: "-1/2"}, true, false}, {api.Target{Factor: "1"}, true, false}, {api.Target{Constant: "0"}, true, false}, {api.Target{Cast: 1}, true, false}, {api.Target{Cast: 3}, true, false}, {api.Target{Min: "1", Max: "1"}, true, false}, {api.Target{Min: "-2", Max: "1/3", Factor: "-2", Constant: "7", Cast: 2}, true, false},
		{api.Target{Cast: 4}, false, false}, {api.Target{Cast: -1}, false, false}, {api.Target{Min: "2", Max: "1"}, false, false}, {api.Target{Min: "10", Max: "9"}, false, false}, {api.Target{Min: "x"}, false, false}, {api.Target{Max: "1.5"}, false, false}, {api.Target{Factor: "2/4"}, false, false}, {api.Target{Constant: "-0"}, false, false}, {api.Target{Min: strings.Repeat("9", 1201)}, false, false},
	} {
		if Valid(c.t) != c.valid || Plain(c.t) != c.none {
			t.Errorf("number %d: %v, %v", i, Valid(c.t), Plain(c.t))
		}
	}
}

func TestP1701Apply(t *testing.T) {
	for i, c := range []struct {
		t         api.Target
		num, want string
	}{
		{api.Target{Factor: "2", Constant: "1", Cast: api.CastRound}, "3/4", "3"},
		{api.Target{}, "3/4", "3/4"}, {api.Target{}, "", ""}, {api.Target{}, "2/4", ""}, {api.Target{}, "x", ""}, {api.Target{Cast: 1}, "", ""}, {api.Target{Min: "5"}, "", ""},
		{api.Target{Min: "1"}, "1/2", "1"}, {api.Target{Min: "1"}, "2", "2"}, {api.Target{Max: "1"}, "2", "1"}, {api.Target{Max: "1"}, "-2", "-2"}, {api.Target{Min: "0"}, "-2", "0"}, {api.Target{Max: "0"}, "2", "0"}, {api.Target{Min: "3", Max: "1"}, "2", "1"},
		{api.Target{Factor: "3"}, "1/3", "1"}, {api.Target{Factor: "0"}, "5", "0"}, {api.Target{Factor: "-1", Max: "1"}, "5", "-1"}, {api.Target{Constant: "1/2"}, "5", "11/2"}, {api.Target{Factor: "2", Constant: "1", Min: "4"}, "1", "9"},
		{api.Target{Cast: api.CastRound}, "5/2", "3"}, {api.Target{Cast: api.CastRound}, "-5/2", "-3"}, {api.Target{Cast: api.CastCeil}, "5/4", "2"}, {api.Target{Cast: api.CastCeil}, "-5/4", "-1"}, {api.Target{Cast: api.CastFloor}, "7/4", "1"}, {api.Target{Cast: api.CastFloor}, "-1/4", "-1"}, {api.Target{Cast: 4}, "7/4", "7/4"}, {api.Target{Cast: api.CastFloor, Max: "3/2", Constant: "1/2"}, "9", "2"},
		{api.Target{Min: "x"}, "1", ""}, {api.Target{Max: "x"}, "1", ""}, {api.Target{Factor: "x"}, "1", ""}, {api.Target{Constant: "x"}, "1", ""},
	} {
		if got := Apply(c.t, c.num); got != c.want {
			t.Errorf("number %d: %q, not %q", i, got, c.want)
		}
	}
}

func TestP1701All(t *testing.T) {
	in := api.Result{Nums: []string{"1", "", "1/2", "x"}}
	if got := All(api.Target{Factor: "2"}, in); !slices.Equal(got.Nums, []string{"2", "", "1", ""}) {
		t.Errorf("%q", got.Nums)
	}
	All(api.Target{}, in).Nums[0] = "spoilt"
	if in.Nums[0] != "1" || len(All(api.Target{Factor: "2"}, api.Result{}).Nums) != 0 {
		t.Error("what is told shares memory, or of none some is told")
	}
}
