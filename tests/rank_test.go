package tests

import (
	"math"
	"testing"

	"loop.example/inkling/impl"
)

// noKnots are numbers that are no knots.
func noKnots() []int {
	return []int{0, -1, 128, -64, -127, 129, 255, 256, 1000, math.MinInt, math.MaxInt}
}

func TestPromise25AKnotIsOfThoseOfBothBelowItHalfByHalf(t *testing.T) {
	for at := 1; at < 64; at++ {
		first, last := impl.RankSpan(at)
		lowFirst, lowLast := impl.RankSpan(2 * at)
		highFirst, highLast := impl.RankSpan(2*at + 1)
		if lowFirst != first || highLast != last || highFirst != lowLast+1 || lowLast-lowFirst != highLast-highFirst {
			t.Errorf("%d is of %d to %d, those below it of %d to %d and %d to %d", at, first, last, lowFirst, lowLast, highFirst, highLast)
		}
	}
	for thing := range impl.Things {
		if first, last := impl.RankSpan(64 + thing); first != thing || last != thing {
			t.Errorf("RankSpan(%d) = %d %d", 64+thing, first, last)
		}
	}
}

func TestPromise25SpanOfEachKnot(t *testing.T) {
	for at := 1; at <= 127; at++ {
		wantFirst, wantLast := spanOf(at)
		if first, last := impl.RankSpan(at); first != wantFirst || last != wantLast {
			t.Errorf("RankSpan(%d) = %d %d, not %d %d", at, first, last, wantFirst, wantLast)
		}
	}
	for at, want := range map[int][2]int{1: {0, 63}, 2: {0, 31}, 3: {32, 63}, 5: {16, 31}, 22: {24, 27}, 32: {0, 1}, 63: {62, 63}, 64: {0, 0}, 65: {1, 1}, 126: {62, 62}, 127: {63, 63}} {
		if first, last := impl.RankSpan(at); first != want[0] || last != want[1] {
			t.Errorf("RankSpan(%d) = %d %d, not %v", at, first, last, want)
		}
	}
}

func TestPromise25WhatIsNoKnotHasNoThings(t *testing.T) {
	for _, at := range noKnots() {
		if first, last := impl.RankSpan(at); first != 1 || last != 0 {
			t.Errorf("RankSpan(%d) = %d %d, not 1 0", at, first, last)
		}
	}
}

func TestPromise26NumsAreTogetherAllAndNoneAboveItsPart(t *testing.T) {
	for _, a := range sampleRanks() {
		mustKeepParts(t, "a sample", a)
		for thing := range impl.Things {
			if a.All < impl.CountMax {
				mustKeepParts(t, "RankAdd", addRank(t, a, thing))
			}
		}
		for _, b := range sampleRanks() {
			if a.All+b.All <= impl.CountMax {
				mustKeepParts(t, "RankJoin", joinRank(t, a, b))
			}
		}
	}
}

func TestPromise26OkIsJustOfKnotsThatAscend(t *testing.T) {
	for a := -2; a <= 130; a++ {
		for b := -2; b <= 130; b++ {
			ascend := 1 <= a && a < b
			if r := rankOf(16, a, 1, b, 1, 127, 14); impl.RankOk(r) != (ascend && b < 127) {
				t.Errorf("RankOk(%v) is %v", r, impl.RankOk(r))
			}
			if r := rankOf(15, a, 1, b, 14); impl.RankOk(r) != (ascend && 64 <= b && b <= 127) {
				t.Errorf("RankOk(%v) is %v", r, impl.RankOk(r))
			}
		}
	}
}

func TestPromise26OkIsJustUpToAPartOfAll(t *testing.T) {
	for _, all := range []int{1, 2, 6, 7, 8, 9, 15, 16, 17, 63, 64, 100, 999, 1000, 1992, 1999, impl.CountMax} {
		for _, at := range []int{1, 2, 3, 5, 31, 32, 47, 62, 63, 64, 100, 126} {
			for num := 1; num < all; num++ {
				r := rankOf(all, at, num, 127, all-num)
				if want := at >= 64 || 8*num <= all; impl.RankOk(r) != want {
					t.Errorf("RankOk(%v) is %v", r, !want)
				}
			}
			if r := rankOf(all, at, all); impl.RankOk(r) != (at >= 64) {
				t.Errorf("RankOk(%v) is %v", r, impl.RankOk(r))
			}
		}
	}
}

func TestPromise26OkIsJustOfAllTogether(t *testing.T) {
	for all := -2; all <= impl.CountMax+2; all++ {
		isAll := all >= 0 && all <= impl.CountMax
		for _, r := range []impl.Rank{rankOf(all), rankOf(all, 64, 1), rankOf(all, 63, 1, 127, 7), rankOf(all, 1, 250, 64, 1000, 127, 750)} {
			if want := isAll && all == atKnots(r).all(); impl.RankOk(r) != want {
				t.Errorf("RankOk(%v) is %v", r, !want)
			}
		}
		if r := rankOf(all, 90, all); impl.RankOk(r) != (isAll && all > 0) {
			t.Errorf("RankOk(%v) is %v", r, impl.RankOk(r))
		}
		// Beside another a Num that is too small, or too great, must not be made up for.
		for _, most := range []int{5, impl.CountMax} {
			if r := rankOf(most, 90, all, 91, most-all); impl.RankOk(r) != (all > 0 && all < most) {
				t.Errorf("RankOk(%v) is %v", r, impl.RankOk(r))
			}
		}
	}
}

func TestPromise26BrokenOnesAreToldAtEveryFunction(t *testing.T) {
	for name, r := range brokenRanks() {
		if impl.RankOk(r) {
			t.Errorf("%s: ok", name)
		}
		for _, thing := range append(marksTo(0, 63), noThings()...) {
			if least, most := impl.RankBelow(r, thing); least != -1 || most != -1 {
				t.Errorf("%s: RankBelow of %d is %d %d, not -1 -1", name, thing, least, most)
			}
			got, ok := impl.RankAdd(r, thing)
			mustRefuseRank(t, "RankAdd, "+name, got, ok)
		}
		for _, n := range []int{math.MinInt, -1, 0, 1, 2, 7, 8, impl.CountMax, r.All, math.MaxInt} {
			if thing, ok := impl.RankAt(r, n); thing != 0 || ok {
				t.Errorf("%s: RankAt of %d is %d %v, not 0 false", name, n, thing, ok)
			}
		}
		for _, other := range append(sampleRanks(), r) {
			got, ok := impl.RankJoin(r, other)
			mustRefuseRank(t, "RankJoin behind, "+name, got, ok)
			got, ok = impl.RankJoin(other, r)
			mustRefuseRank(t, "RankJoin ahead, "+name, got, ok)
		}
		for other, b := range brokenRanks() {
			got, ok := impl.RankJoin(r, b)
			mustRefuseRank(t, "RankJoin, "+name+" and "+other, got, ok)
		}
	}
}

func TestPromise27AddIsOkAndTellsNothingNearer(t *testing.T) {
	for _, before := range sampleRanks() {
		for thing := range impl.Things {
			r, ok := impl.RankAdd(before, thing)
			if before.All == impl.CountMax {
				mustRefuseRank(t, "one more than CountMax", r, ok)
				continue
			}
			mustBeRank(t, "RankAdd", r, ok, addedRank(before, thing))
			if !impl.RankOk(r) || r.All != before.All+1 {
				t.Errorf("%v and %d: %v", before, thing, r)
			}
			for other := range impl.Things {
				more := 0
				if thing <= other {
					more = 1
				}
				least, most := impl.RankBelow(before, other)
				newLeast, newMost := impl.RankBelow(r, other)
				if newLeast > least+more || newMost < most+more {
					t.Errorf("%v and %d: RankBelow of %d is %d %d, behind %d %d", before, thing, other, newLeast, newMost, least, most)
				}
			}
		}
	}
}

func TestPromise27FromNothingUpToFewAboveThings(t *testing.T) {
	r := impl.Rank{}
	for num := 1; num <= 8; num++ {
		r = addRank(t, r, 0)
		mustBeRank(t, "of one thing", r, true, rankOf(num, 64, num))
	}
	for _, c := range []struct {
		thing int
		want  impl.Rank
	}{
		{63, rankOf(9, 1, 1, 64, 8)},
		{63, rankOf(10, 1, 1, 3, 1, 64, 8)},
		{62, rankOf(11, 1, 1, 3, 1, 7, 1, 64, 8)},
		{63, rankOf(12, 1, 1, 3, 1, 7, 1, 15, 1, 64, 8)},
		{32, rankOf(13, 1, 1, 3, 1, 6, 1, 7, 1, 15, 1, 64, 8)},
		{1, rankOf(14, 1, 1, 3, 1, 6, 1, 7, 1, 15, 1, 64, 8, 65, 1)},
		{2, rankOf(15, 1, 1, 2, 1, 3, 1, 6, 1, 7, 1, 15, 1, 64, 8, 65, 1)},
		{63, rankOf(16, 1, 1, 2, 1, 3, 1, 6, 1, 7, 1, 15, 2, 64, 8, 65, 1)},
	} {
		r = addRank(t, r, c.thing)
		mustBeRank(t, "one by one", r, true, c.want)
	}
}

func TestPromise27BelowRankPartsNothingIsSqueezed(t *testing.T) {
	r, nums := impl.Rank{}, times{}
	for _, thing := range []int{0, 63, 1, 62, 32, 31, 0} {
		r = addRank(t, r, thing)
		nums[64+thing]++
		mustBeRank(t, "below RankParts", r, true, rankWith(nums))
	}
	mustBeRank(t, "RankParts", addRank(t, r, 63), true, rankOf(8, 2, 1, 3, 1, 64, 2, 65, 1, 126, 1, 127, 2))
}

func TestPromise27AllMeetsCountMaxExactly(t *testing.T) {
	for _, c := range []struct{ before, want impl.Rank }{
		{rankOf(1999, 64, 1999), rankOf(2000, 1, 1, 64, 1999)},
		{rankOf(1999, 127, 1999), rankOf(2000, 127, 2000)},
		{rankOf(1999, 1, 249, 64, 1750), rankOf(2000, 1, 250, 64, 1750)},
		{rankOf(1999, 64, 1750, 126, 249), rankOf(2000, 1, 250, 64, 1750)},
		{rankOf(1999, 64, 1749, 126, 250), rankOf(2000, 64, 1749, 126, 250, 127, 1)},
	} {
		full := addRank(t, c.before, 63)
		mustBeRank(t, "just CountMax", full, true, c.want)
		for thing := range impl.Things {
			got, ok := impl.RankAdd(full, thing)
			mustRefuseRank(t, "one more than CountMax", got, ok)
		}
	}
}

func TestPromise27OneThingUpToCountMax(t *testing.T) {
	for _, thing := range []int{0, 31, 63} {
		r := impl.Rank{}
		for num := 1; num <= impl.CountMax; num++ {
			r = addRank(t, r, thing)
			mustBeRank(t, "one by one", r, true, rankOf(num, 64+thing, num))
		}
		got, ok := impl.RankAdd(r, thing)
		mustRefuseRank(t, "one more", got, ok)
	}
}

func TestPromise27AllThingsInTurnUpToCountMax(t *testing.T) {
	r := impl.Rank{}
	for num := range impl.CountMax {
		want := addedRank(r, num*7%impl.Things)
		r = addRank(t, r, num*7%impl.Things)
		mustBeRank(t, "in turn", r, true, want)
		mustKeepParts(t, "in turn", r)
	}
}

func TestPromise27WhatIsNoThingIsNotCounted(t *testing.T) {
	for _, r := range sampleRanks() {
		// From -63 on the numbers would be those of knots above things.
		for _, thing := range append(marksTo(-65, -1), noThings()...) {
			got, ok := impl.RankAdd(r, thing)
			mustRefuseRank(t, "RankAdd of no thing", got, ok)
		}
	}
}

func TestPromise28BelowIsAtMostSixPartsApart(t *testing.T) {
	for _, r := range sampleRanks() {
		for thing := range impl.Things {
			least, most := impl.RankBelow(r, thing)
			wantLeast, wantMost := upTo(r, thing)
			if least != wantLeast || most != wantMost {
				t.Errorf("RankBelow(%v, %d) = %d %d, not %d %d", r, thing, least, most, wantLeast, wantMost)
			}
			if least < 0 || most > r.All || most-least < 0 || most-least > 6*(r.All/8) {
				t.Errorf("RankBelow(%v, %d) = %d %d", r, thing, least, most)
			}
		}
		if least, most := impl.RankBelow(r, 63); least != r.All || most != r.All {
			t.Errorf("RankBelow(%v, 63) = %d %d, not all", r, least, most)
		}
	}
}

func TestPromise28BelowAtTheEdges(t *testing.T) {
	six := rankOf(80, 1, 10, 2, 10, 4, 10, 8, 10, 16, 10, 32, 10, 64, 20)
	halves := rankOf(16, 2, 2, 3, 2, 63, 2, 64, 6, 126, 1, 127, 3)
	for _, c := range []struct {
		r                  impl.Rank
		thing, least, most int
	}{
		{impl.Rank{}, 0, 0, 0},
		{impl.Rank{}, 63, 0, 0},
		{six, 0, 20, 80},
		{six, 1, 30, 80},
		{six, 2, 30, 80},
		{six, 3, 40, 80},
		{six, 30, 60, 80},
		{six, 31, 70, 80},
		{six, 32, 70, 80},
		{six, 62, 70, 80},
		{six, 63, 80, 80},
		{halves, 0, 6, 8},
		{halves, 30, 6, 8},
		{halves, 31, 8, 8},
		{halves, 32, 8, 10},
		{halves, 61, 8, 10},
		{halves, 62, 9, 13},
		{halves, 63, 16, 16},
		{rankOf(2000, 64, 2000), 0, 2000, 2000},
		{rankOf(2000, 127, 2000), 62, 0, 0},
		{rankOf(2000, 127, 2000), 63, 2000, 2000},
		{six, -1, -1, -1},
		{six, 64, -1, -1},
	} {
		if least, most := impl.RankBelow(c.r, c.thing); least != c.least || most != c.most {
			t.Errorf("RankBelow(%v, %d) = %d %d, not %d %d", c.r, c.thing, least, most, c.least, c.most)
		}
	}
}

func TestPromise28BelowOfNoThing(t *testing.T) {
	for _, r := range sampleRanks() {
		for _, thing := range noThings() {
			if least, most := impl.RankBelow(r, thing); least != -1 || most != -1 {
				t.Errorf("RankBelow(%v, %d) = %d %d, not -1 -1", r, thing, least, most)
			}
		}
	}
}

func TestPromise29UpToAGreaterThingIsNoLess(t *testing.T) {
	for _, r := range sampleRanks() {
		beforeLeast, beforeMost := 0, 0
		for thing := range impl.Things {
			least, most := impl.RankBelow(r, thing)
			if least < beforeLeast || most < beforeMost {
				t.Errorf("RankBelow(%v, %d) = %d %d, behind %d %d", r, thing, least, most, beforeLeast, beforeMost)
			}
			beforeLeast, beforeMost = least, most
		}
	}
}

func TestPromise30AtIsTheLeastThingUpToWhichThereAreAsMany(t *testing.T) {
	for _, r := range sampleRanks() {
		// From one thing to the next the answer changes just where as many are below it.
		ask := []int{1, r.All}
		for thing := range impl.Things {
			least, _ := upTo(r, thing)
			ask = append(ask, least-1, least, least+1)
		}
		for _, n := range ask {
			if n < 1 || n > r.All {
				continue
			}
			want := 0
			for least := 0; least < n; want++ {
				least, _ = upTo(r, want)
			}
			if thing, ok := impl.RankAt(r, n); !ok || thing != want-1 {
				t.Errorf("RankAt(%v, %d) = %d %v, not %d", r, n, thing, ok, want-1)
			}
		}
	}
}

func TestPromise30AtOfOneAndOfAll(t *testing.T) {
	halves := rankOf(16, 2, 2, 3, 2, 63, 2, 64, 6, 126, 1, 127, 3)
	for _, c := range []struct {
		r        impl.Rank
		n, thing int
	}{
		{rankOf(1, 64, 1), 1, 0},
		{rankOf(1, 127, 1), 1, 63},
		{rankOf(2000, 64, 2000), 1, 0},
		{rankOf(2000, 64, 2000), 2000, 0},
		{rankOf(2000, 127, 2000), 1, 63},
		{rankOf(2000, 64, 1999, 127, 1), 1999, 0},
		{rankOf(2000, 64, 1999, 127, 1), 2000, 63},
		{rankOf(8, 1, 1, 64, 7), 7, 0},
		{rankOf(8, 1, 1, 64, 7), 8, 63},
		{halves, 1, 0},
		{halves, 6, 0},
		{halves, 7, 31},
		{halves, 8, 31},
		{halves, 9, 62},
		{halves, 10, 63},
		{halves, 16, 63},
	} {
		if thing, ok := impl.RankAt(c.r, c.n); !ok || thing != c.thing {
			t.Errorf("RankAt(%v, %d) = %d %v, not %d", c.r, c.n, thing, ok, c.thing)
		}
	}
}

func TestPromise30AtOfNoneAndOfMoreThanAll(t *testing.T) {
	for _, r := range sampleRanks() {
		for _, n := range []int{0, -1, r.All + 1, r.All + 2, -r.All - 1, impl.CountMax + 1, math.MinInt, math.MaxInt} {
			if thing, ok := impl.RankAt(r, n); ok || thing != 0 {
				t.Errorf("RankAt(%v, %d) = %d %v, not 0 false", r, n, thing, ok)
			}
		}
	}
}

func TestPromise31JoinIsTheSameEitherWayAndOk(t *testing.T) {
	for _, a := range sampleRanks() {
		for _, b := range sampleRanks() {
			r, ok := impl.RankJoin(a, b)
			back, backOk := impl.RankJoin(b, a)
			if a.All+b.All > impl.CountMax {
				mustRefuseRank(t, "RankJoin, too much", r, ok)
				mustRefuseRank(t, "RankJoin back, too much", back, backOk)
				continue
			}
			mustBeRank(t, "RankJoin", r, ok, joinedRank(a, b))
			mustBeRank(t, "RankJoin back", back, backOk, joinedRank(a, b))
			if !impl.RankOk(r) {
				t.Errorf("%v and %v: %v is not ok", a, b, r)
			}
		}
	}
}

func TestPromise31JoinSqueezesWhatIsLittle(t *testing.T) {
	for name, c := range map[string]struct{ a, b, want impl.Rank }{
		"nothing and nothing": {
			impl.Rank{}, rankOf(0),
			impl.Rank{}},
		"with nothing it is squeezed too": {
			rankOf(8, 64, 1, 127, 7), impl.Rank{},
			rankOf(8, 1, 1, 127, 7)},
		"below RankParts nothing is little": {
			rankOf(3, 64, 1, 126, 1, 127, 1), rankOf(4, 64, 2, 65, 1, 127, 1),
			rankOf(7, 64, 3, 65, 1, 126, 1, 127, 2)},
		"at RankParts one is": {
			rankOf(3, 80, 1, 126, 1, 127, 1), rankOf(5, 64, 3, 65, 1, 127, 1),
			rankOf(8, 1, 1, 64, 3, 65, 1, 126, 1, 127, 2)},
		"64 and 65 have just a part": {
			rankOf(2, 64, 1, 65, 1), rankOf(14, 127, 14),
			rankOf(16, 1, 2, 127, 14)},
		"64 and 65 have one more": {
			rankOf(2, 64, 1, 65, 1), rankOf(15, 64, 1, 127, 14),
			rankOf(17, 64, 2, 65, 1, 127, 14)},
		"126 and 127 have just a part": {
			rankOf(8, 64, 7, 126, 1), rankOf(8, 64, 7, 127, 1),
			rankOf(16, 1, 2, 64, 14)},
		"126 and 127 have one more": {
			rankOf(8, 64, 7, 126, 1), rankOf(9, 64, 7, 127, 2),
			rankOf(17, 64, 14, 126, 1, 127, 2)},
		"one has just a part, the other has nothing": {
			rankOf(2, 65, 2), rankOf(14, 127, 14),
			rankOf(16, 1, 2, 127, 14)},
		"one has one more, the other has nothing": {
			rankOf(3, 65, 3), rankOf(14, 127, 14),
			rankOf(17, 65, 3, 127, 14)},
		"just a part with the knot above": {
			rankOf(9, 32, 1, 127, 8), rankOf(8, 33, 1, 64, 1, 127, 6),
			rankOf(17, 32, 2, 33, 1, 127, 14)},
		"one more with the knot above": {
			rankOf(9, 32, 1, 127, 8), rankOf(8, 33, 1, 64, 1, 65, 1, 127, 5),
			rankOf(17, 1, 2, 64, 1, 65, 1, 127, 13)},
		"63 has a part, and goes up ahead of what is below it": {
			rankOf(8, 63, 1, 64, 7), rankOf(8, 63, 1, 64, 6, 126, 1),
			rankOf(16, 1, 2, 64, 13, 126, 1)},
		"five steps up, till there is too much": {
			rankOf(8, 2, 1, 127, 7), rankOf(8, 2, 1, 64, 1, 127, 6),
			rankOf(16, 1, 2, 4, 1, 127, 13)},
		"too much comes to two, each from others": {
			rankOf(3, 64, 1, 66, 1, 68, 1), rankOf(13, 127, 13),
			rankOf(16, 16, 2, 17, 1, 127, 13)},
		"a knot above things goes up, with nothing below it": {
			rankOf(8, 5, 1, 127, 7), impl.Rank{},
			rankOf(8, 1, 1, 127, 7)},
		"2 and 3 have just a part with 1": {
			rankOf(24, 1, 1, 2, 1, 3, 1, 127, 21), impl.Rank{},
			rankOf(24, 1, 3, 127, 21)},
		"2 and 3 have one more with 1": {
			rankOf(24, 1, 1, 2, 2, 3, 1, 127, 20), impl.Rank{},
			rankOf(24, 1, 1, 2, 2, 3, 1, 127, 20)},
		"parts of both are together a part": {
			rankOf(8, 1, 1, 64, 7), rankOf(8, 1, 1, 127, 7),
			rankOf(16, 1, 2, 64, 7, 127, 7)},
		"a part of both is more than one of each": {
			rankOf(7, 64, 6, 127, 1), rankOf(1, 64, 1),
			rankOf(8, 1, 1, 64, 7)},
	} {
		mustBeRank(t, name, joinRank(t, c.a, c.b), true, c.want)
		mustBeRank(t, name+", back", joinRank(t, c.b, c.a), true, c.want)
	}
}

func TestPromise31JoinOfAllThings(t *testing.T) {
	for _, num := range []int{1, 2, 15, 31} {
		a, b := times{}, times{}
		for thing := range impl.Things {
			a[64+thing] = num * (thing % 2)
			b[64+thing] = num * (1 - thing%2)
		}
		// Eight things each have together just one of RankParts parts.
		want := rankOf(64*num, 8, 8*num, 9, 8*num, 10, 8*num, 11, 8*num, 12, 8*num, 13, 8*num, 14, 8*num, 15, 8*num)
		mustBeRank(t, "all things", joinRank(t, rankWith(a), rankWith(b)), true, want)
	}
}

func TestPromise31JoinMeetsCountMaxExactly(t *testing.T) {
	for _, all := range []int{1, 7, 8, 1000, 1992, 1999} {
		rest := impl.CountMax - all
		a, b := rankOf(all, 64, all), rankOf(rest, 64, rest)
		mustBeRank(t, "just CountMax", joinRank(t, a, b), true, rankOf(2000, 64, 2000))
		b = rankOf(rest+1, 64, rest+1)
		got, ok := impl.RankJoin(a, b)
		mustRefuseRank(t, "one more than CountMax", got, ok)
		got, ok = impl.RankJoin(b, a)
		mustRefuseRank(t, "one more than CountMax, back", got, ok)
	}
	full := rankOf(2000, 1, 250, 64, 1750)
	mustBeRank(t, "CountMax and nothing", joinRank(t, full, impl.Rank{}), true, full)
	for _, more := range []impl.Rank{rankOf(1, 64, 1), rankOf(8, 1, 1, 64, 7), rankOf(1000, 127, 1000), full} {
		got, ok := impl.RankJoin(full, more)
		mustRefuseRank(t, "more than CountMax", got, ok)
	}
	mustBeRank(t, "each half of CountMax", joinRank(t, rankOf(1000, 64, 1000), rankOf(1000, 127, 1000)), true, rankOf(2000, 64, 1000, 127, 1000))
	mustBeRank(t, "one more than a part of each half", joinRank(t, rankOf(1000, 64, 874, 127, 126), rankOf(1000, 64, 876, 127, 124)), true, rankOf(2000, 1, 250, 64, 1750))
}

func TestPromise31AddIsJoinWithOne(t *testing.T) {
	for _, r := range sampleRanks() {
		for thing := range impl.Things {
			if r.All < impl.CountMax {
				mustBeRank(t, "RankJoin with one", joinRank(t, rankOf(1, 64+thing, 1), r), true, addRank(t, r, thing))
			}
		}
	}
}

func TestPromise32JoinedBelowIsNotNearerThanBoth(t *testing.T) {
	for _, a := range sampleRanks() {
		for _, b := range sampleRanks() {
			if a.All+b.All > impl.CountMax {
				continue
			}
			r := joinRank(t, a, b)
			for thing := range impl.Things {
				leastA, mostA := impl.RankBelow(a, thing)
				leastB, mostB := impl.RankBelow(b, thing)
				least, most := impl.RankBelow(r, thing)
				if least > leastA+leastB || most < mostA+mostB || least > most {
					t.Errorf("%v and %v: RankBelow of %d is %d %d, of each %d %d and %d %d", a, b, thing, least, most, leastA, mostA, leastB, mostB)
				}
			}
		}
	}
}

func TestPromise33AKnotIsOfAThingJustIfOneComesToItGoingUp(t *testing.T) {
	for thing := range impl.Things {
		comesTo := map[int]bool{}
		for at := 64 + thing; at >= 1; at /= 2 {
			comesTo[at] = true
		}
		for at := -1; at <= 128; at++ {
			first, last := impl.RankSpan(at)
			if isOf := first <= thing && thing <= last; isOf != comesTo[at] {
				t.Errorf("the knot %d is of %d to %d, that one comes to it from %d is %v", at, first, last, thing, comesTo[at])
			}
		}
	}
}

func TestPromise33WhatIsSqueezedComesToKnotsOfTheThing(t *testing.T) {
	for _, before := range sampleRanks() {
		for thing := range impl.Things {
			if before.All == impl.CountMax {
				continue
			}
			// All that was up to a thing, and no more, is still where going up from there leads.
			r := addRank(t, before, thing)
			for at := 64; at <= 127; at++ {
				if was, is := onWayUp(both(atKnots(before), times{64 + thing: 1}), at), onWayUp(atKnots(r), at); is < was {
					t.Fatalf("%v and %d: above %d there are %d in %v, behind %d", before, thing, at, is, r, was)
				}
			}
		}
	}
}

// onWayUp is how much the knots have that one comes to from there, going up.
func onWayUp(nums times, at int) int {
	num := 0
	for ; at >= 1; at /= 2 {
		num += nums[at]
	}
	return num
}

func TestRankPartsIsThatOfTheTable(t *testing.T) {
	if impl.RankParts != 8 {
		t.Error(impl.RankParts)
	}
}
