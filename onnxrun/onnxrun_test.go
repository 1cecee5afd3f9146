package onnxrun

import (
	"fmt"
	"math"
	"math/rand"
	"slices"
	"strings"
	"testing"

	"hornbeam/api"
)

func bits(v float64) uint64 { return uint64(math.Float32bits(float32(v))) }

var (
	nan  = uint64(0x7fc00000)
	pinf = bits(math.Inf(1))
	minf = bits(math.Inf(-1))
)

func TestP2401Takes(t *testing.T) {
	signs := func(value, x uint64) string {
		out := ""
		for mode := api.BranchLEQ; mode <= api.BranchNEQ; mode++ {
			out += map[bool]string{true: "1", false: "0"}[Takes(mode, value, false, x)]
		}
		return out
	}
	for i, c := range []struct {
		x, value uint64
		want     string // of LEQ, LT, GTE, GT, EQ, NEQ
	}{
		{bits(1), bits(2), "110001"}, {bits(2), bits(2), "101010"}, {bits(3), bits(2), "001101"}, {bits(-1), bits(1), "110001"}, {bits(-1), bits(-2), "001101"}, {bits(-3), bits(-2), "110001"}, {0, 1 << 31, "101010"}, {1 << 31, 0, "101010"}, {1, 0, "001101"}, {1<<31 | 1, 0, "110001"}, {1, 1<<31 | 1, "001101"},
		{minf, bits(-math.MaxFloat32), "110001"}, {pinf, bits(math.MaxFloat32), "001101"}, {pinf, pinf, "101010"}, {minf, minf, "101010"}, {minf, pinf, "110001"}, {bits(5), pinf, "110001"}, {bits(5), minf, "001101"},
		{bits(1), nan, "000000"}, {bits(1), 0xff800001, "000000"}, {pinf, nan, "000000"}, {nan, bits(1), "000000"}, {nan, nan, "000000"}, {1<<32 | bits(2), bits(2), "101010"},
	} {
		if got := signs(c.value, c.x); got != c.want {
			t.Errorf("number %d: %s, not %s", i, got, c.want)
		}
	}
	for _, x := range []uint64{nan, 0x7f800001, 0xffc00000, 0xffffffff} {
		for mode := range 9 {
			if !Takes(mode, bits(1), true, x) || Takes(mode, bits(1), false, x) || !Takes(mode, nan, true, x) {
				t.Errorf("%x in mode %d", x, mode)
			}
		}
	}
	for _, mode := range []int{-1, 0, api.Leaf, 8} {
		if Takes(mode, 0, true, 0) {
			t.Error("mode", mode, "takes")
		}
	}
	r := rand.New(rand.NewSource(1))
	for range 5000 {
		x, v := uint64(r.Uint32()), uint64(r.Uint32())
		if a, b := math.Float32frombits(uint32(x)), math.Float32frombits(uint32(v)); a == a && b == b {
			want := fmt.Sprint([]bool{a <= b, a < b, a >= b, a > b, a == b, a != b})
			if got := fmt.Sprint([]bool{Takes(1, v, true, x), Takes(2, v, true, x), Takes(3, v, true, x), Takes(4, v, true, x), Takes(5, v, true, x), Takes(6, v, true, x)}); got != want {
				t.Fatal(a, b, got)
			}
		}
	}
}

// sample has a tree 4 (x1 <= 1.5: 2 and 1 to target 0, 5 to target 1; else x0 == 0: 7 to target 0; else nothing) and a tree 9, a leaf (3 to target 0).
func sample() api.Ensemble {
	return api.Ensemble{
		Features: 2, Targets: 2, Aggregate: "SUM", Post: "SOFTMAX",
		Nodes: []api.ENode{
			{Tree: 9, Node: 8, Mode: api.Leaf}, {Tree: 4, Node: 2, Mode: api.Leaf}, {Tree: 4, Node: 6, Mode: api.BranchLEQ, Feature: 1, Value: bits(1.5), True: 2, False: 3, Tracks: true}, {Tree: 4, Node: 3, Mode: api.BranchEQ, Feature: 0, True: 5, False: 4}, {Tree: 4, Node: 4, Mode: api.Leaf}, {Tree: 4, Node: 5, Mode: api.Leaf},
		},
		Leaves: []api.ELeaf{{Tree: 4, Node: 2, Weight: bits(2)}, {Tree: 4, Node: 2, Weight: bits(1)}, {Tree: 4, Node: 2, Target: 1, Weight: bits(5)}, {Tree: 4, Node: 5, Weight: bits(7)}, {Tree: 9, Node: 8, Weight: bits(3)}},
	}
}

func TestP2401Leaf(t *testing.T) {
	for i, c := range []struct {
		tree int
		row  []uint64
		want string
	}{
		{4, []uint64{bits(1), bits(1.5)}, "2 true"}, {4, []uint64{bits(1), nan}, "2 true"}, {4, []uint64{0, bits(2)}, "5 true"}, {4, []uint64{1 << 31, pinf}, "5 true"}, {4, []uint64{bits(1), bits(2)}, "4 true"}, {4, []uint64{nan, bits(2)}, "4 true"}, {9, []uint64{nan, nan}, "8 true"}, {4, []uint64{bits(1), bits(2), 7}, "4 true"},
		{5, []uint64{0, 0}, "0 false"}, {4, []uint64{0}, "0 false"}, {9, nil, "0 false"},
	} {
		if got := fmt.Sprint(Leaf(sample(), c.tree, c.row)); got != c.want {
			t.Errorf("number %d: %s", i, got)
		}
	}
	bad := sample()
	bad.Post = ""
	if got := fmt.Sprint(Leaf(bad, 4, []uint64{0, 0})); got != "0 false" {
		t.Error(got)
	}
}

func TestP2402(t *testing.T) {
	rows := [][]uint64{{bits(1), bits(1)}, {0, bits(2)}, {bits(1), bits(2)}, {nan, nan}}
	told := func(e api.Ensemble) string {
		out := ""
		for _, row := range rows {
			nums, code := Score(e, row)
			if code != api.OK {
				out += fmt.Sprint("?", code)
			}
			out += strings.Join(nums, ",") + " "
		}
		return out
	}
	with := func(aggregate string, base ...uint64) api.Ensemble {
		e := sample()
		e.Aggregate, e.Base = aggregate, base
		return e
	}
	for i, c := range []struct {
		e    api.Ensemble
		want string
	}{
		{with("SUM"), "6,5 10,0 3,0 6,5 "}, {with("AVERAGE"), "3,5/2 5,0 3/2,0 3,5/2 "}, {with("MIN"), "3,5 3,0 3,0 3,5 "}, {with("MAX"), "3,5 7,0 3,0 3,5 "},
		{with("SUM", bits(0.5), bits(-1)), "13/2,4 21/2,-1 7/2,-1 13/2,4 "}, {with("AVERAGE", bits(1), 0), "4,5/2 6,0 5/2,0 4,5/2 "}, {with("MAX", 0, bits(2)), "3,7 7,2 3,2 3,7 "},
	} {
		if got := told(c.e); got != c.want {
			t.Errorf("number %d: %s, not %s", i, got, c.want)
		}
	}
	tiny := api.Ensemble{Targets: 1, Aggregate: "SUM", Post: "NONE", Nodes: []api.ENode{{Mode: api.Leaf}}}
	if nums, code := Score(tiny, nil); !slices.Equal(nums, []string{"0"}) || code != 0 {
		t.Error("a leaf that gives nothing:", nums, code)
	}
	tiny.Leaves = []api.ELeaf{{Weight: 1}, {Weight: bits(1)}}
	if nums, _ := Score(tiny, nil); nums[0] != "713623846352979940529142984724747568191373313/713623846352979940529142984724747568191373312" {
		t.Error("not exact:", nums)
	}
	below := api.Ensemble{Targets: 1, Aggregate: "MAX", Post: "NONE", Nodes: []api.ENode{{Mode: api.Leaf}, {Tree: 1, Mode: api.Leaf}}, Leaves: []api.ELeaf{{Weight: bits(-3)}}}
	if nums, _ := Score(below, nil); nums[0] != "-3" {
		t.Error("a tree that gives none counts:", nums)
	}
	for i, row := range [][]uint64{nil, {0}, {0, 0, 0}} {
		if nums, code := Score(sample(), row); code != api.ErrArity || len(nums) > 0 {
			t.Error("row", i, nums, code)
		}
	}
	bad := sample()
	bad.Features = 1
	if nums, code := Score(bad, nil); code != api.ErrArg || len(nums) > 0 {
		t.Error(nums, code)
	}
}
