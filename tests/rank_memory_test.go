package tests

import (
	"slices"
	"testing"

	"loop.example/inkling/impl"
)

// roomyRank is the same with spare room behind its knots, and marks there.
func roomyRank(r impl.Rank) impl.Rank {
	r.Knots = withRoom(r.Knots, impl.Knot{At: mark, Num: mark})
	return r
}

// wholeKnots copies all knots of those, spare room included.
func wholeKnots(ranks []impl.Rank) []impl.Knot {
	var whole []impl.Knot
	for _, r := range ranks {
		whole = append(whole, r.Knots[:cap(r.Knots)]...)
	}
	return whole
}

// mustLeaveRanks fails if a call writes into one of its arguments, or behind its end.
func mustLeaveRanks(t *testing.T, what string, call func(), args ...impl.Rank) {
	t.Helper()
	before := wholeKnots(args)
	call()
	if after := wholeKnots(args); !slices.Equal(before, after) {
		t.Fatalf("%s: an argument is written into: %v, not %v", what, after, before)
	}
}

// mustHaveOwnKnots fails if writing into an answer, or behind its end, is seen in one of those.
func mustHaveOwnKnots(t *testing.T, what string, answer impl.Rank, others ...impl.Rank) {
	t.Helper()
	mustLeaveRanks(t, what+", the answer's memory", func() {
		wide := answer.Knots[:cap(answer.Knots)]
		for place := range wide {
			wide[place] = impl.Knot{At: 12345, Num: 54321}
		}
	}, others...)
}

func TestRankAddHasItsOwnMemory(t *testing.T) {
	for _, sample := range sampleRanks() {
		for _, thing := range append(marksTo(0, 63), noThings()...) {
			r := roomyRank(sample)
			var answer impl.Rank
			mustLeaveRanks(t, "RankAdd", func() { answer, _ = impl.RankAdd(r, thing) }, r)
			mustHaveOwnKnots(t, "RankAdd", answer, r)
		}
	}
}

func TestRankJoinHasItsOwnMemory(t *testing.T) {
	for _, sampleA := range sampleRanks() {
		for _, sampleB := range sampleRanks() {
			a, b := roomyRank(sampleA), roomyRank(sampleB)
			var answer impl.Rank
			mustLeaveRanks(t, "RankJoin", func() { answer, _ = impl.RankJoin(a, b) }, a, b)
			mustHaveOwnKnots(t, "RankJoin", answer, a, b)
		}
		a := roomyRank(sampleA)
		var answer impl.Rank
		mustLeaveRanks(t, "RankJoin with itself", func() { answer, _ = impl.RankJoin(a, a) }, a)
		mustHaveOwnKnots(t, "RankJoin with itself", answer, a)
	}
}

// Behind the end of the first argument the second one stands, in the same memory.
func TestRanksMayStandBehindEachOtherInMemory(t *testing.T) {
	numbers := []int{64, 5, 127, 3, 64, 2, 65, 1, 126, 5, 127, 1}
	list := rankOf(0, numbers...).Knots
	a, b := impl.Rank{Knots: list[:2], All: 8}, impl.Rank{Knots: list[2:5], All: 8}
	for range 2 {
		mustBeRank(t, "RankJoin", joinRank(t, a, b), true, rankOf(16, 64, 7, 65, 1, 126, 5, 127, 3))
		mustBeRank(t, "RankJoin back", joinRank(t, b, a), true, rankOf(16, 64, 7, 65, 1, 126, 5, 127, 3))
		mustBeRank(t, "RankAdd, and squeezed", addRank(t, a, 9), true, rankOf(9, 1, 1, 64, 5, 127, 3))
		mustBeRank(t, "RankAdd of one that has something", addRank(t, b, 62), true, rankOf(9, 64, 2, 65, 1, 126, 6))
	}
	if !slices.Equal(list, rankOf(0, numbers...).Knots) {
		t.Error(list)
	}
}

func TestTwoAnswersOfRankShareNoMemory(t *testing.T) {
	for _, r := range sampleRanks() {
		if r.All < impl.CountMax {
			mustHaveOwnKnots(t, "RankAdd", addRank(t, r, 0), addRank(t, r, 0))
		}
		mustHaveOwnKnots(t, "RankJoin", joinRank(t, r, impl.Rank{}), joinRank(t, impl.Rank{}, r))
	}
}

func TestReadingRankWritesNothing(t *testing.T) {
	for _, sample := range sampleRanks() {
		r := roomyRank(sample)
		mustLeaveRanks(t, "reading", func() {
			impl.RankOk(r)
			for _, thing := range append(marksTo(0, 63), noThings()...) {
				impl.RankBelow(r, thing)
				impl.RankAt(r, thing)
			}
			impl.RankAt(r, r.All)
			impl.RankAt(r, r.All+1)
		}, r)
	}
}

func TestBrokenRanksAreLeft(t *testing.T) {
	for name, broken := range brokenRanks() {
		r, good := roomyRank(broken), roomyRank(rankOf(8, 1, 1, 3, 1, 64, 6))
		mustLeaveRanks(t, name, func() {
			impl.RankOk(r)
			impl.RankBelow(r, 5)
			impl.RankAt(r, 1)
			impl.RankAdd(r, 5)
			impl.RankJoin(r, good)
			impl.RankJoin(good, r)
		}, r, good)
	}
}
