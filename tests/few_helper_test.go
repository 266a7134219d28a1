package tests

import (
	"math"
	"math/rand/v2"
	"slices"
	"testing"

	"loop.example/inkling/impl"
)

// fewMarks has the mark of each thing, reckoned from the chapter, but not by the program.
var fewMarks = [impl.Things]int{
	11, 48, 21, 58, 31, 4, 41, 14, 51, 24, 61, 34, 7, 44, 17, 54,
	27, 0, 37, 10, 47, 20, 57, 30, 3, 40, 13, 50, 23, 60, 33, 6,
	43, 16, 53, 26, 63, 36, 9, 46, 19, 56, 29, 2, 39, 12, 49, 22,
	59, 32, 5, 42, 15, 52, 25, 62, 35, 8, 45, 18, 55, 28, 1, 38,
}

func thingOf(mark int) int {
	return slices.Index(fewMarks[:], mark)
}

// fewOf makes, without the program, what has counted the things with those marks.
func fewOf(marks ...int) impl.Few {
	kept := slices.Compact(slices.Sorted(slices.Values(marks)))
	return impl.Few{Kept: slices.Clone(kept[:min(len(kept), impl.FewKeep)])}
}

// marksTo are the marks from first to last.
func marksTo(first int, last int) []int {
	marks := []int{}
	for mark := first; mark <= last; mark++ {
		marks = append(marks, mark)
	}
	return marks
}

// sampleMarks has marks of things that are counted: the edges (no mark, one, FewKeep-1, FewKeep, one more, all; 0 and 63) and many others, always the same.
func sampleMarks() [][]int {
	list := [][]int{
		{},
		{0},
		{63},
		{31},
		{0, 63},
		{63, 0, 63, 0},
		marksTo(0, impl.FewKeep-2),
		marksTo(65-impl.FewKeep, 63),
		{0, 9, 20, 40, 63},
		marksTo(0, impl.FewKeep-1),
		marksTo(1, impl.FewKeep),
		marksTo(64-impl.FewKeep, 63),
		{0, 1, 2, 3, 4, 63},
		{0, 3, 9, 11, 20, 31},
		{31, 20, 11, 9, 3, 0, 0},
		{1, 10, 20, 30, 40, 50},
		marksTo(0, impl.FewKeep),
		marksTo(63-impl.FewKeep, 63),
		{1, 10, 20, 30, 40, 50, 51},
		marksTo(0, 63),
	}
	random := rand.New(rand.NewPCG(3, 4))
	for size := 1; size <= 16; size++ {
		marks := []int{}
		for range size {
			marks = append(marks, random.IntN(impl.Things))
		}
		list = append(list, marks)
	}
	return list
}

// brokenFews are all not ok, each for one reason alone where that is possible.
func brokenFews() map[string]impl.Few {
	list := map[string]impl.Few{
		"a mark too many":         {Kept: marksTo(0, impl.FewKeep)},
		"the last mark too many":  {Kept: []int{0, 10, 20, 30, 40, 50, 63}},
		"all marks":               {Kept: marksTo(0, 63)},
		"too many, all the same":  {Kept: []int{7, 7, 7, 7, 7, 7, 7}},
		"descending":              {Kept: []int{9, 3}},
		"descending from FewKeep": {Kept: []int{50, 40, 30, 20, 10, 0}},
		"the first not least":     {Kept: []int{4, 3, 9, 11, 20, 31}},
		"the last not greatest":   {Kept: []int{0, 3, 9, 11, 20, 19}},
		"one in between too much": {Kept: []int{0, 3, 12, 11, 20, 31}},
		"0 behind others":         {Kept: []int{3, 0}},
		"0 twice":                 {Kept: []int{0, 0}},
		"63 twice":                {Kept: []int{63, 63}},
		"one twice":               {Kept: []int{3, 3}},
		"one twice, in between":   {Kept: []int{0, 3, 9, 9, 20, 31}},
		"one twice, apart":        {Kept: []int{3, 9, 3}},
		"the last twice":          {Kept: []int{0, 3, 9, 11, 31, 31}},
		"below 0":                 {Kept: []int{-1}},
		"below 0, with others":    {Kept: []int{-1, 0, 1}},
		"far below 0":             {Kept: []int{math.MinInt, 5}},
		"above the last":          {Kept: []int{impl.Things}},
		"above, with others":      {Kept: []int{0, 3, 9, 11, 20, impl.Things}},
		"far above":               {Kept: []int{5, math.MaxInt}},
		"below 0, and above":      {Kept: []int{-1, impl.Things}},
	}
	return list
}

// mustBeFew fails unless a call answered just so, and true.
func mustBeFew(t *testing.T, what string, got impl.Few, ok bool, want impl.Few) {
	t.Helper()
	if !ok || !slices.Equal(got.Kept, want.Kept) {
		t.Fatalf("%s: %v %v, not %v", what, got, ok, want)
	}
}

// mustRefuseFew fails unless a call answered nothing and false.
func mustRefuseFew(t *testing.T, what string, got impl.Few, ok bool) {
	t.Helper()
	if ok || len(got.Kept) != 0 {
		t.Fatalf("%s: %v %v, not nothing and false", what, got, ok)
	}
}

// addFew counts where that is known to be possible.
func addFew(t *testing.T, f impl.Few, things ...int) impl.Few {
	t.Helper()
	for _, thing := range things {
		x, ok := impl.FewAdd(f, thing)
		if !ok {
			t.Fatalf("FewAdd(%v, %d) is refused", f, thing)
		}
		f = x
	}
	return f
}

// joinFew joins where that is known to be possible.
func joinFew(t *testing.T, a impl.Few, b impl.Few) impl.Few {
	t.Helper()
	x, ok := impl.FewJoin(a, b)
	if !ok {
		t.Fatalf("FewJoin(%v, %v) is refused", a, b)
	}
	return x
}
