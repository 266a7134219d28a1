package tests

import (
	"slices"
	"testing"

	"loop.example/inkling/impl"
)

// roomySum is the same with spare room behind each list, and marks there.
func roomySum(s impl.Sum) impl.Sum {
	return impl.Sum{Rough: roomy(s.Rough), Few: roomyFew(s.Few), Top: roomyTop(s.Top), Rank: roomyRank(s.Rank)}
}

// numbersOf lays all lists of numbers of a sum open to the checks of memory, that are made for rows.
func numbersOf(s impl.Sum) impl.Rough {
	return impl.Rough{Rows: append(slices.Clone(s.Rough.Rows), s.Few.Kept)}
}

// mustLeaveSums fails if a call writes into one of its arguments, or behind its end.
func mustLeaveSums(t *testing.T, what string, call func(), args ...impl.Sum) {
	t.Helper()
	var roughs []impl.Rough
	var tops []impl.Top
	var ranks []impl.Rank
	for _, s := range args {
		roughs = append(roughs, s.Rough, bare(s.Few))
		tops = append(tops, s.Top)
		ranks = append(ranks, s.Rank)
	}
	mustLeave(t, what, func() {
		mustLeaveTops(t, what, func() {
			mustLeaveRanks(t, what, call, ranks...)
		}, tops...)
	}, roughs...)
}

// mustHaveOwnLists fails if writing into an answer, or behind an end of it, is seen in another list of it, or in one of those others.
func mustHaveOwnLists(t *testing.T, what string, answer impl.Sum, others ...impl.Sum) {
	t.Helper()
	mustLeaveSums(t, what+", the answer's memory", func() {
		mustHaveOwnMemory(t, what, numbersOf(answer))
		mustHaveOwnMemory(t, what, answer.Rough)
		mustHaveOwnPairs(t, what, answer.Top)
		mustHaveOwnKnots(t, what, answer.Rank)
	}, others...)
}

func TestSumNewIsNewMemory(t *testing.T) {
	mustHaveOwnLists(t, "SumNew", impl.SumNew(), impl.SumNew())
	other := impl.SumNew()
	mustHaveOwnLists(t, "SumNew", impl.SumNew(), other)
	mustBeSum(t, "SumNew", other, true, noSum())
	mustBeSum(t, "SumNew once more", impl.SumNew(), true, noSum())
}

func TestSumAddHasItsOwnMemory(t *testing.T) {
	for _, sample := range sampleSums(t) {
		for _, thing := range []int{0, 1, 5, 17, 31, 62, 63, -1, 64} {
			s := roomySum(sample)
			var answer impl.Sum
			mustLeaveSums(t, "SumAdd", func() { answer, _ = impl.SumAdd(s, thing) }, s)
			mustHaveOwnLists(t, "SumAdd", answer, s)
		}
	}
}

func TestSumJoinHasItsOwnMemory(t *testing.T) {
	sums := sampleSums(t)
	for i, sampleA := range sums {
		for j := i % 5; j < len(sums); j += 5 {
			a, b := roomySum(sampleA), roomySum(sums[j])
			var answer impl.Sum
			mustLeaveSums(t, "SumJoin", func() { answer, _ = impl.SumJoin(a, b) }, a, b)
			mustHaveOwnLists(t, "SumJoin", answer, a, b)
		}
		a, none := roomySum(sampleA), roomySum(noSum())
		var answer impl.Sum
		mustLeaveSums(t, "SumJoin with itself", func() { answer, _ = impl.SumJoin(a, a) }, a)
		mustHaveOwnLists(t, "SumJoin with itself", answer, a)
		mustLeaveSums(t, "SumJoin with SumNew", func() { answer, _ = impl.SumJoin(a, none) }, a, none)
		mustHaveOwnLists(t, "SumJoin with SumNew", answer, a, none)
		mustLeaveSums(t, "SumNew joined with it", func() { answer, _ = impl.SumJoin(none, a) }, a, none)
		mustHaveOwnLists(t, "SumNew joined with it", answer, a, none)
	}
}

func TestSumOfHasItsOwnMemory(t *testing.T) {
	for _, sample := range append(sampleLists(), []int{3, 64}, []int{-1, 3}, inTurn(impl.CountMax+1, 7)) {
		list := impl.Few{Kept: withRoom(sample, mark)}
		var answer impl.Sum
		mustLeave(t, "SumOf", func() { answer, _ = impl.SumOf(list.Kept) }, bare(list))
		mustLeave(t, "SumOf, the answer's memory", func() { mustHaveOwnLists(t, "SumOf", answer) }, bare(list))
	}
}

// Behind the end of what is in the first argument that of the second one stands, in the same memory.
func TestSumsMayStandBehindEachOtherInMemory(t *testing.T) {
	goodA, goodB := sumOf(t, []int{3, 5, 5, 63, 0}), sumOf(t, []int{0, 5, 62, 31, 30, 29, 28})
	marks := slices.Concat(goodA.Few.Kept, goodB.Few.Kept)
	pairs := slices.Concat(goodA.Top.Pairs, goodB.Top.Pairs)
	knots := slices.Concat(goodA.Rank.Knots, goodB.Rank.Knots)
	rows := slices.Concat(goodA.Rough.Rows, goodB.Rough.Rows)
	a, b := goodA, goodB
	a.Few.Kept, b.Few.Kept = marks[:len(a.Few.Kept)], marks[len(a.Few.Kept):]
	a.Top.Pairs, b.Top.Pairs = pairs[:len(a.Top.Pairs)], pairs[len(a.Top.Pairs):]
	a.Rank.Knots, b.Rank.Knots = knots[:len(a.Rank.Knots)], knots[len(a.Rank.Knots):]
	a.Rough.Rows, b.Rough.Rows = rows[:3], rows[3:]
	for range 2 {
		mustBeSum(t, "SumJoin", joinSum(t, a, b), true, joinedSum(goodA, goodB))
		mustBeSum(t, "SumJoin back", joinSum(t, b, a), true, joinedSum(goodA, goodB))
		mustBeSum(t, "SumAdd", addSum(t, a, 9), true, addedSum(goodA, 9))
	}
	mustBeSum(t, "the second one", b, true, goodB)
}

func TestTwoAnswersOfSumShareNoMemory(t *testing.T) {
	for _, s := range sampleSums(t) {
		if s.Top.All < impl.CountMax {
			mustHaveOwnLists(t, "SumAdd", addSum(t, s, 0), addSum(t, s, 0))
		}
		mustHaveOwnLists(t, "SumJoin", joinSum(t, s, noSum()), joinSum(t, noSum(), s))
	}
	for _, list := range edgeLists()[:20] {
		mustHaveOwnLists(t, "SumOf", sumOf(t, list), sumOf(t, list), impl.SumNew())
	}
}

func TestReadingSumWritesNothing(t *testing.T) {
	for _, sample := range sampleSums(t) {
		s := roomySum(sample)
		mustLeaveSums(t, "reading", func() {
			impl.SumOk(s)
			impl.SumAll(s)
			for _, thing := range append(marksTo(0, 63), noThings()...) {
				impl.SumGet(s, thing)
			}
		}, s)
	}
}

func TestBrokenSumsAreLeft(t *testing.T) {
	for name, broken := range brokenSums() {
		s, good := roomySum(broken), roomySum(sumWith(8))
		mustLeaveSums(t, name, func() {
			impl.SumOk(s)
			impl.SumAll(s)
			impl.SumGet(s, 5)
			impl.SumAdd(s, 5)
			impl.SumJoin(s, good)
			impl.SumJoin(good, s)
		}, s, good)
	}
}
