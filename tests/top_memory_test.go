package tests

import (
	"slices"
	"testing"

	"loop.example/inkling/impl"
)

// roomyTop is the same with spare room behind its pairs, and marks there.
func roomyTop(x impl.Top) impl.Top {
	x.Pairs = withRoom(x.Pairs, impl.Pair{Thing: mark, Num: mark})
	return x
}

// wholePairs copies all pairs of those, spare room included.
func wholePairs(tops []impl.Top) []impl.Pair {
	var whole []impl.Pair
	for _, x := range tops {
		whole = append(whole, x.Pairs[:cap(x.Pairs)]...)
	}
	return whole
}

// mustLeaveTops fails if a call writes into one of its arguments, or behind its end.
func mustLeaveTops(t *testing.T, what string, call func(), args ...impl.Top) {
	t.Helper()
	before := wholePairs(args)
	call()
	if after := wholePairs(args); !slices.Equal(before, after) {
		t.Fatalf("%s: an argument is written into: %v, not %v", what, after, before)
	}
}

// mustHaveOwnPairs fails if writing into an answer, or behind its end, is seen in one of those.
func mustHaveOwnPairs(t *testing.T, what string, answer impl.Top, others ...impl.Top) {
	t.Helper()
	mustLeaveTops(t, what+", the answer's memory", func() {
		wide := answer.Pairs[:cap(answer.Pairs)]
		for place := range wide {
			wide[place] = impl.Pair{Thing: 12345, Num: 54321}
		}
	}, others...)
}

func TestTopAddHasItsOwnMemory(t *testing.T) {
	for _, sample := range sampleTops() {
		for _, thing := range append(marksTo(0, 63), noThings()...) {
			x := roomyTop(sample)
			var answer impl.Top
			mustLeaveTops(t, "TopAdd", func() { answer, _ = impl.TopAdd(x, thing) }, x)
			mustHaveOwnPairs(t, "TopAdd", answer, x)
		}
	}
}

func TestTopJoinHasItsOwnMemory(t *testing.T) {
	for _, sampleA := range sampleTops() {
		for _, sampleB := range sampleTops() {
			a, b := roomyTop(sampleA), roomyTop(sampleB)
			var answer impl.Top
			mustLeaveTops(t, "TopJoin", func() { answer, _ = impl.TopJoin(a, b) }, a, b)
			mustHaveOwnPairs(t, "TopJoin", answer, a, b)
		}
		a := roomyTop(sampleA)
		var answer impl.Top
		mustLeaveTops(t, "TopJoin with itself", func() { answer, _ = impl.TopJoin(a, a) }, a)
		mustHaveOwnPairs(t, "TopJoin with itself", answer, a)
	}
}

// Behind the end of the first argument the second one stands, in the same memory.
func TestTopsMayStandBehindEachOtherInMemory(t *testing.T) {
	numbers := []int{0, 3, 20, 4, 63, 3, 10, 5, 40, 4, 41, 1}
	list := pairsOf(numbers...)
	a, b := impl.Top{Pairs: list[:3], All: 10}, impl.Top{Pairs: list[3:5], All: 9}
	for range 2 {
		mustBeTop(t, "TopJoin", joinTop(t, a, b), true, topOf(3, 19, 10, 2, 20, 1, 40, 1))
		mustBeTop(t, "TopJoin back", joinTop(t, b, a), true, topOf(3, 19, 10, 2, 20, 1, 40, 1))
		mustBeTop(t, "TopAdd of a new one", addTop(t, a, 7), true, topOf(0, 11, 0, 3, 7, 1, 20, 4, 63, 3))
		mustBeTop(t, "TopAdd of one that is kept", addTop(t, b, 40), true, topOf(0, 10, 10, 5, 40, 5))
	}
	if !slices.Equal(list, pairsOf(numbers...)) {
		t.Error(list)
	}
}

func TestTwoAnswersOfTopShareNoMemory(t *testing.T) {
	for _, x := range sampleTops() {
		if x.All < impl.CountMax {
			mustHaveOwnPairs(t, "TopAdd", addTop(t, x, 0), addTop(t, x, 0))
		}
		mustHaveOwnPairs(t, "TopJoin", joinTop(t, x, impl.Top{}), joinTop(t, impl.Top{}, x))
	}
}

func TestReadingTopWritesNothing(t *testing.T) {
	for _, sample := range sampleTops() {
		x := roomyTop(sample)
		mustLeaveTops(t, "reading", func() {
			impl.TopOk(x)
			for _, thing := range append(marksTo(0, 63), noThings()...) {
				impl.TopGet(x, thing)
			}
		}, x)
	}
}

func TestBrokenTopsAreLeft(t *testing.T) {
	for name, broken := range brokenTops() {
		x, good := roomyTop(broken), roomyTop(topOf(0, 5, 3, 2, 9, 1))
		mustLeaveTops(t, name, func() {
			impl.TopOk(x)
			impl.TopGet(x, 5)
			impl.TopAdd(x, 5)
			impl.TopJoin(x, good)
			impl.TopJoin(good, x)
		}, x, good)
	}
}
