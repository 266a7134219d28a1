package tests

import (
	"math"
	"math/rand/v2"
	"slices"
	"testing"

	"loop.example/inkling/impl"
)

func TestPromise46AllFourOfAnOkSumAreOkAndOfAsMuch(t *testing.T) {
	for _, s := range sampleSums(t) {
		all := impl.SumAll(s)
		if !impl.SumOk(s) || !impl.RoughOk(s.Rough) || !impl.FewOk(s.Few) || !impl.TopOk(s.Top) || !impl.RankOk(s.Rank) {
			t.Errorf("%v is not ok", s)
		}
		if impl.RoughAll(s.Rough) != all || s.Top.All != all || s.Rank.All != all || (len(s.Few.Kept) > 0) != (all > 0) {
			t.Errorf("%v is not of %d", s, all)
		}
	}
}

func TestPromise46OkIsJustWhatIsOfAsMuchAndHasMarks(t *testing.T) {
	alls := []int{0, 1, 2, 7, 8, 1000, 1999, impl.CountMax}
	for _, rough := range alls {
		for _, top := range alls {
			for _, rank := range alls {
				for marks := range 7 {
					s := impl.Sum{Rough: sumWith(rough).Rough, Few: fewOf(marksTo(1, marks)...), Top: sumWith(top).Top, Rank: sumWith(rank).Rank}
					want := rough == top && top == rank && (rough == 0) == (marks == 0)
					if impl.SumOk(s) != want {
						t.Errorf("SumOk(%v) is %v", s, !want)
					}
				}
			}
		}
	}
}

func TestPromise46OneOfTheFourIsNotOk(t *testing.T) {
	for name, r := range brokenRoughs() {
		if s := sumWith(5); impl.SumOk(impl.Sum{Rough: r, Few: s.Few, Top: s.Top, Rank: s.Rank}) {
			t.Errorf("Rough: %s: ok", name)
		}
	}
	for name, f := range brokenFews() {
		if impl.SumOk(withFew(sumWith(5), f)) {
			t.Errorf("Few: %s: ok", name)
		}
	}
	// These are of as much as the others, and still not ok.
	for name, x := range map[string]impl.Top{
		"a pair too many": topOf(0, 5, 0, 1, 1, 1, 2, 1, 3, 1, 4, 1),
		"descending":      topOf(0, 5, 5, 1, 4, 1),
		"a thing of 64":   topOf(0, 5, 64, 1),
		"a Num of 0":      topOf(0, 5, 5, 0),
		"Lost below 0":    topOf(-1, 5),
		"above All":       topOf(1, 5, 5, 1),
	} {
		s := sumWith(5)
		s.Top = x
		if impl.SumOk(s) {
			t.Errorf("Top: %s: ok", name)
		}
	}
	for name, r := range map[string]impl.Rank{
		"descending":       rankOf(5, 70, 4, 69, 1),
		"the knot 0":       rankOf(5, 0, 1, 64, 4),
		"the knot 128":     rankOf(5, 64, 4, 128, 1),
		"a Num of 0":       rankOf(5, 64, 0, 65, 5),
		"one below All":    rankOf(5, 64, 4),
		"one above All":    rankOf(5, 64, 6),
		"no part of 5":     rankOf(5, 1, 1, 64, 4),
		"All, and no knot": rankOf(5),
	} {
		s := sumWith(5)
		s.Rank = r
		if impl.SumOk(s) {
			t.Errorf("Rank: %s: ok", name)
		}
	}
}

func TestPromise46BrokenOnesAreToldAtEveryFunction(t *testing.T) {
	var others []impl.Sum
	for _, all := range []int{0, 1, 8, 1000, impl.CountMax} {
		others = append(others, sumWith(all))
	}
	for name, s := range brokenSums() {
		if impl.SumOk(s) {
			t.Errorf("%s: ok", name)
		}
		if all := impl.SumAll(s); all != -1 {
			t.Errorf("%s: SumAll is %d, not -1", name, all)
		}
		for _, thing := range append(marksTo(0, 63), noThings()...) {
			if least, most := impl.SumGet(s, thing); least != -1 || most != -1 {
				t.Errorf("%s: SumGet of %d is %d %d, not -1 -1", name, thing, least, most)
			}
		}
		for _, thing := range append([]int{0, 5, 63}, noThings()...) {
			got, ok := impl.SumAdd(s, thing)
			mustRefuseSum(t, "SumAdd, "+name, got, ok)
		}
		for _, other := range append(others, s, impl.Sum{}) {
			got, ok := impl.SumJoin(s, other)
			mustRefuseSum(t, "SumJoin behind, "+name, got, ok)
			got, ok = impl.SumJoin(other, s)
			mustRefuseSum(t, "SumJoin ahead, "+name, got, ok)
		}
	}
}

func TestPromise47AddCountsInAllFour(t *testing.T) {
	for _, s := range sampleSums(t) {
		for thing := range impl.Things {
			x, ok := impl.SumAdd(s, thing)
			if s.Top.All == impl.CountMax {
				mustRefuseSum(t, "one more than CountMax", x, ok)
				continue
			}
			mustBeSum(t, "SumAdd", x, ok, addedSum(s, thing))
			mustBeSum(t, "SumAdd, each for itself", x, ok, impl.Sum{
				Rough: add(t, s.Rough, thing, 1),
				Few:   addFew(t, s.Few, thing),
				Top:   addTop(t, s.Top, thing),
				Rank:  addRank(t, s.Rank, thing),
			})
			if !impl.SumOk(x) || impl.SumAll(x) != impl.SumAll(s)+1 {
				t.Errorf("%v and %d: %v", s, thing, x)
			}
		}
	}
}

func TestPromise47AllMeetsCountMaxExactly(t *testing.T) {
	for _, list := range [][]int{often(63, 1999), inTurn(1999, 7), inTurn(1999, 16)} {
		full := addSum(t, sumOf(t, list), 63)
		mustBeSum(t, "just CountMax", full, true, addedSum(sumOf(t, list), 63))
		if all := impl.SumAll(full); all != impl.CountMax {
			t.Errorf("SumAll is %d", all)
		}
		for thing := range impl.Things {
			got, ok := impl.SumAdd(full, thing)
			mustRefuseSum(t, "one more than CountMax", got, ok)
		}
	}
}

func TestPromise47WhatIsNoThingIsNotCounted(t *testing.T) {
	for _, s := range sampleSums(t) {
		for _, thing := range append(marksTo(-65, -1), noThings()...) {
			got, ok := impl.SumAdd(s, thing)
			mustRefuseSum(t, "SumAdd of no thing", got, ok)
		}
	}
}

func TestPromise48OfIsOkAndOfAsMany(t *testing.T) {
	for _, list := range sampleLists() {
		want := noSum()
		for _, thing := range list {
			want = addedSum(want, thing)
		}
		s, ok := impl.SumOf(list)
		mustBeSum(t, "SumOf", s, ok, want)
		if !impl.SumOk(s) || impl.SumAll(s) != len(list) {
			t.Errorf("SumOf(%v) is %v", list, s)
		}
	}
}

func TestPromise48OfNothingIsNew(t *testing.T) {
	mustBeSum(t, "SumNew", impl.SumNew(), true, noSum())
	for _, list := range [][]int{nil, {}, often(5, 9)[:0]} {
		s, ok := impl.SumOf(list)
		mustBeSum(t, "SumOf nothing", s, ok, noSum())
	}
	if !impl.SumOk(impl.SumNew()) || impl.SumAll(impl.SumNew()) != 0 {
		t.Error(impl.SumNew())
	}
}

func TestPromise48OfWhatCannotBe(t *testing.T) {
	for _, list := range append(sampleLists(), inTurn(impl.CountMax+1, 7)) {
		for _, thing := range noThings() {
			for _, place := range []int{0, len(list) / 2, len(list)} {
				s, ok := impl.SumOf(slices.Insert(slices.Clone(list), place, thing))
				mustRefuseSum(t, "SumOf no thing", s, ok)
			}
		}
	}
	for _, thing := range noThings() {
		s, ok := impl.SumOf(often(thing, 3))
		mustRefuseSum(t, "SumOf no things alone", s, ok)
	}
}

func TestPromise48OfMeetsCountMaxExactly(t *testing.T) {
	for _, list := range [][]int{often(0, impl.CountMax), often(63, impl.CountMax), inTurn(impl.CountMax, 1), inTurn(impl.CountMax, 7)} {
		if s := sumOf(t, list); impl.SumAll(s) != impl.CountMax || !impl.SumOk(s) {
			t.Errorf("of CountMax things there are %d", impl.SumAll(s))
		}
		for _, more := range [][]int{{0}, {63}, {5, 6}, inTurn(impl.CountMax, 1)} {
			s, ok := impl.SumOf(slices.Concat(list, more))
			mustRefuseSum(t, "more than CountMax", s, ok)
		}
	}
}

func TestPromise49OfIsAddOneBehindTheOther(t *testing.T) {
	random := rand.New(rand.NewPCG(15, 16))
	for _, list := range sampleLists() {
		whole := sumOf(t, list)
		for _, cut := range []int{0, 1, len(list) / 2, len(list) - 1, len(list), random.IntN(len(list) + 1)} {
			cut = min(max(cut, 0), len(list))
			mustBeSum(t, "cut", addSum(t, sumOf(t, list[:cut]), list[cut:]...), true, whole)
		}
	}
}

func TestPromise49CutAnywhere(t *testing.T) {
	for _, list := range [][]int{{0}, {3, 5, 5}, {63, 0, 63, 0, 31, 32, 1, 62}, inTurn(9, 7), inTurn(70, 13), append(inTurn(40, 3), often(63, 12)...)} {
		whole := sumOf(t, list)
		for cut := range len(list) + 1 {
			mustBeSum(t, "cut", addSum(t, sumOf(t, list[:cut]), list[cut:]...), true, whole)
		}
	}
}

func TestPromise50FromBehindRoughAndFewAreTheSame(t *testing.T) {
	for _, list := range sampleLists() {
		s := sumOf(t, list)
		slices.Reverse(list)
		mustBeAsIf(t, "from behind", sumOf(t, list), s)
	}
}

func TestPromise51GetIsBetween(t *testing.T) {
	for _, list := range sampleLists() {
		c, s := timesIn(list), sumOf(t, list)
		for thing := range impl.Things {
			least, most := impl.SumGet(s, thing)
			mustBeBetween(t, "SumGet", thing, c[thing], least, most)
			if wantLeast, wantMost := toldOf(s, thing); least != wantLeast || most != wantMost {
				t.Errorf("SumGet of %d of %v is %d %d, not %d %d", thing, list, least, most, wantLeast, wantMost)
			}
		}
	}
}

func TestPromise51GetIsBetweenAtEachStep(t *testing.T) {
	for _, step := range []int{1, 13, 16} {
		s, c := impl.SumNew(), times{}
		for _, thing := range slices.Concat(inTurn(100, step), often(63, 20), inTurn(30, step)) {
			s = addSum(t, s, thing)
			c[thing]++
			for other := range impl.Things {
				least, most := impl.SumGet(s, other)
				mustBeBetween(t, "SumGet", other, c[other], least, most)
			}
		}
	}
}

func TestPromise51GetAtTheEdges(t *testing.T) {
	// Five things are as often there, so that one of each is lost. In two rows 13 has the place of 0, in one it is 8.
	five := []int{13, 8, 20, 30, 40}
	// Of the things up to 5, and of 17, 24, 31 and 48, the marks 0, 3, 4, 6, 11 and 31 are kept; 0, 10, 48 and 63 are counted most.
	many := slices.Concat([]int{17, 24, 31, 4, 5, 48}, often(63, 9), []int{0, 10})
	for name, c := range map[string]struct {
		list               []int
		thing, least, most int
	}{
		"nothing was counted, 0":                {nil, 0, 0, 0},
		"nothing was counted, 63":               {nil, 63, 0, 0},
		"one thing":                             {[]int{0}, 0, 1, 1},
		"another thing":                         {[]int{0}, 63, 0, 0},
		"one thing often":                       {often(63, 100), 63, 100, 100},
		"CountMax":                              {often(63, impl.CountMax), 63, 2000, 2000},
		"just TopKeep, 0":                       {inTurn(4, 1), 0, 1, 1},
		"one more, known to be counted":         {five, 13, 1, 1},
		"one more, known too":                   {five, 40, 1, 1},
		"in its place, known not to be counted": {five, 0, 0, 0},
		"known to be counted, and lost":         {many, 4, 1, 1},
		"known to be counted, and kept":         {many, 0, 1, 1},
		"known not to be counted":               {many, 2, 0, 0},
		"not known, counted 9 times":            {many, 63, 9, 10},
		"not known, counted once":               {many, 48, 1, 1},
		"not known, and not counted":            {many, 13, 0, 1},
		"not known, and in no place":            {many, 1, 0, 0},
	} {
		if least, most := impl.SumGet(sumOf(t, c.list), c.thing); least != c.least || most != c.most {
			t.Errorf("%s: %d %d, not %d %d", name, least, most, c.least, c.most)
		}
	}
}

func TestPromise51GetOfNoThing(t *testing.T) {
	for _, s := range sampleSums(t) {
		for _, thing := range append(marksTo(-65, -1), noThings()...) {
			if least, most := impl.SumGet(s, thing); least != -1 || most != -1 {
				t.Errorf("SumGet(%v, %d) = %d %d, not -1 -1", s, thing, least, most)
			}
		}
	}
}

func TestPromise52GetTellsNothingFartherThanTop(t *testing.T) {
	for _, list := range sampleLists() {
		s := sumOf(t, list)
		for thing := range impl.Things {
			least, most := impl.SumGet(s, thing)
			topLeast, topMost := impl.TopGet(s.Top, thing)
			if least < topLeast || most > topMost || most > impl.RoughGet(s.Rough, thing) {
				t.Errorf("SumGet of %d of %v is %d %d, TopGet %d %d", thing, list, least, most, topLeast, topMost)
			}
			if has, known := impl.FewHas(s.Few, thing); known && !has && (least != 0 || most != 0) {
				t.Errorf("SumGet of %d of %v is %d %d, and it was not counted", thing, list, least, most)
			}
		}
	}
}

func TestPromise52GetOfAnyThatIsOk(t *testing.T) {
	for _, s := range mixedSums() {
		for thing := range impl.Things {
			wantLeast, wantMost := toldOf(s, thing)
			if least, most := impl.SumGet(s, thing); least != wantLeast || most != wantMost {
				t.Errorf("SumGet(%v, %d) = %d %d, not %d %d", s, thing, least, most, wantLeast, wantMost)
			}
		}
	}
}

func TestPromise53JoinIsTheSameEitherWayOkAndOfAsMuchAsBoth(t *testing.T) {
	sums := sampleSums(t)
	for i, a := range sums {
		// Every third is enough of what is told apart by the four themselves.
		for j := i % 3; j < len(sums); j += 3 {
			b := sums[j]
			s, ok := impl.SumJoin(a, b)
			back, backOk := impl.SumJoin(b, a)
			if a.Top.All+b.Top.All > impl.CountMax {
				mustRefuseSum(t, "SumJoin, too much", s, ok)
				mustRefuseSum(t, "SumJoin back, too much", back, backOk)
				continue
			}
			mustBeSum(t, "SumJoin", s, ok, joinedApart(t, a, b))
			mustBeSum(t, "SumJoin back", back, backOk, s)
			if !impl.SumOk(s) || impl.SumAll(s) != impl.SumAll(a)+impl.SumAll(b) {
				t.Errorf("%v and %v: %v", a, b, s)
			}
		}
	}
}

func TestPromise53JoinOfAllFour(t *testing.T) {
	var sums []impl.Sum
	for _, list := range sampleLists() {
		sums = append(sums, sumOf(t, list))
	}
	for _, a := range sums {
		for _, b := range sums {
			if a.Top.All+b.Top.All <= impl.CountMax {
				mustBeSum(t, "SumJoin", joinSum(t, a, b), true, joinedSum(a, b))
			}
		}
	}
}

func TestPromise53JoinMeetsCountMaxExactly(t *testing.T) {
	for _, all := range []int{0, 1, 7, 1000, 1999, impl.CountMax} {
		a, b := sumOf(t, inTurn(all, 7)), sumOf(t, inTurn(impl.CountMax-all, 5))
		both := joinSum(t, a, b)
		mustBeSum(t, "just CountMax", both, true, joinedSum(a, b))
		if impl.SumAll(both) != impl.CountMax {
			t.Errorf("SumAll is %d", impl.SumAll(both))
		}
		if all == impl.CountMax {
			continue
		}
		a = addSum(t, a, 63)
		got, ok := impl.SumJoin(a, b)
		mustRefuseSum(t, "one more than CountMax", got, ok)
		got, ok = impl.SumJoin(b, a)
		mustRefuseSum(t, "one more than CountMax, back", got, ok)
	}
}

func TestPromise54WithNewRoughFewAndTopStay(t *testing.T) {
	for _, s := range sampleSums(t) {
		want := s
		want.Rank = joinRank(t, s.Rank, impl.Rank{})
		mustBeSum(t, "ahead of SumNew", joinSum(t, s, impl.SumNew()), true, want)
		mustBeSum(t, "behind SumNew", joinSum(t, impl.SumNew(), s), true, want)
	}
	mustBeSum(t, "both SumNew", joinSum(t, impl.SumNew(), impl.SumNew()), true, noSum())
}

func TestPromise55JoinedRoughAndFewAreAsIfAllHadBeenCounted(t *testing.T) {
	join := func(a impl.Sum, b impl.Sum) impl.Sum { return joinSum(t, a, b) }
	eachJoined(t, join, func(list []int, joined impl.Sum) {
		marks := []int{}
		for thing := range timesIn(list) {
			marks = append(marks, fewMarks[thing])
		}
		mustBeAsIf(t, "joined", joined, impl.Sum{Rough: roughOf(timesIn(list)), Few: fewOf(marks...)})
	})
	for _, a := range sampleLists() {
		for _, b := range [][]int{{}, {0}, {63, 5}, inTurn(6, 11), inTurn(64, 3)} {
			if len(a)+len(b) <= impl.CountMax {
				mustBeAsIf(t, "joined", joinSum(t, sumOf(t, a), sumOf(t, b)), sumOf(t, slices.Concat(a, b)))
			}
		}
	}
}

func TestPromise56JoinedGetIsBetween(t *testing.T) {
	join := func(a impl.Sum, b impl.Sum) impl.Sum { return joinSum(t, a, b) }
	eachJoined(t, join, func(list []int, joined impl.Sum) {
		c := timesIn(list)
		for thing := range impl.Things {
			least, most := impl.SumGet(joined, thing)
			mustBeBetween(t, "SumGet", thing, c[thing], least, most)
		}
		if impl.SumAll(joined) != len(list) {
			t.Fatalf("SumAll is %d, not %d", impl.SumAll(joined), len(list))
		}
	})
}

func TestPromise57AllIsThatOfRoughOrBelow0(t *testing.T) {
	for _, s := range sampleSums(t) {
		if all := impl.SumAll(s); all != impl.RoughAll(s.Rough) || all != s.Top.All {
			t.Errorf("SumAll(%v) is %d", s, all)
		}
	}
	for _, all := range []int{0, 1, 8, 1999, impl.CountMax} {
		if got := impl.SumAll(sumWith(all)); got != all {
			t.Errorf("SumAll is %d, not %d", got, all)
		}
	}
	for name, s := range brokenSums() {
		if all := impl.SumAll(s); all >= 0 {
			t.Errorf("%s: SumAll is %d", name, all)
		}
	}
}

func TestPromise58InEitherOrderRoughAndFewAreTheSame(t *testing.T) {
	for _, s := range sampleSums(t) {
		if s.Top.All > impl.CountMax-2 {
			continue
		}
		for first := 0; first < impl.Things; first += 3 {
			for second := first % 2; second < impl.Things; second += 7 {
				a, b := addSum(t, s, first, second), addSum(t, s, second, first)
				mustBeAsIf(t, "in either order", a, b)
				if all := impl.SumAll(a); all != impl.SumAll(b) || all != impl.SumAll(s)+2 {
					t.Fatalf("SumAll is %d and %d", all, impl.SumAll(b))
				}
			}
		}
	}
}

func TestPromise58InAnyOrderAsMuchIsCounted(t *testing.T) {
	random := rand.New(rand.NewPCG(17, 18))
	for _, list := range sampleLists() {
		s := sumOf(t, list)
		random.Shuffle(len(list), func(i int, j int) { list[i], list[j] = list[j], list[i] })
		other := sumOf(t, list)
		mustBeAsIf(t, "in any order", other, s)
		if impl.SumAll(other) != impl.SumAll(s) {
			t.Errorf("SumAll is %d and %d", impl.SumAll(s), impl.SumAll(other))
		}
	}
}

func TestNumbersFarOutsideAreNoThings(t *testing.T) {
	for _, thing := range []int{math.MinInt, math.MaxInt, math.MinInt + 5, math.MaxInt - 58, 1 << 32, 5 - 1<<32} {
		s, ok := impl.SumAdd(impl.SumNew(), thing)
		mustRefuseSum(t, "SumAdd", s, ok)
		if least, most := impl.SumGet(sumWith(5), thing); least != -1 || most != -1 {
			t.Errorf("SumGet of %d is %d %d", thing, least, most)
		}
	}
}
