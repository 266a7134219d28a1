package tests

import (
	"math/rand/v2"
	"slices"
	"testing"

	"loop.example/inkling/impl"
)

// mustBeBetween fails unless a number is not below what is told at least, and not above what is told at most.
func mustBeBetween(t *testing.T, what string, thing int, num int, least int, most int) {
	t.Helper()
	if num < least || num > most {
		t.Fatalf("%s: of %d %d to %d are told, there are %d", what, thing, least, most, num)
	}
}

// eachJoined calls for two lists what is joined of both, wherever that can be, and for each list what is joined of its pieces.
func eachJoined(t *testing.T, join func(a impl.Sum, b impl.Sum) impl.Sum, check func(list []int, joined impl.Sum)) {
	t.Helper()
	lists := sampleLists()
	var sums []impl.Sum
	for _, list := range lists {
		sums = append(sums, countedApart(t, list))
	}
	for i, a := range lists {
		for j, b := range lists {
			if len(a)+len(b) <= impl.CountMax {
				check(slices.Concat(a, b), join(sums[i], sums[j]))
			}
		}
	}
	random := rand.New(rand.NewPCG(11, 12))
	for _, list := range lists {
		for range 3 {
			check(list, inPieces(t, list, random, join))
		}
	}
}

func TestPromise34RoughGetTellsNeverLess(t *testing.T) {
	for _, list := range sampleLists() {
		c, r := timesIn(list), countedApart(t, list).Rough
		for thing := range impl.Things {
			if most := impl.RoughGet(r, thing); most < c[thing] || most > len(list) {
				t.Errorf("%d was counted %d times of %d, %d is told", thing, c[thing], len(list), most)
			}
		}
	}
}

func TestPromise34RoughGetTellsNeverLessWhenJoined(t *testing.T) {
	join := func(a impl.Sum, b impl.Sum) impl.Sum { return joinedApart(t, a, b) }
	eachJoined(t, join, func(list []int, joined impl.Sum) {
		c := timesIn(list)
		for thing := range impl.Things {
			mustBeBetween(t, "RoughGet", thing, c[thing], 0, impl.RoughGet(joined.Rough, thing))
		}
	})
}

func TestPromise35RoughGetIsWhatHasThePlaceWhereThatIsLeast(t *testing.T) {
	for _, list := range sampleLists() {
		r := countedApart(t, list).Rough
		for thing := range impl.Things {
			want := len(list)
			for row := range impl.RoughRows {
				have := 0
				for _, other := range list {
					if placeOf(row, other) == placeOf(row, thing) {
						have++
					}
				}
				want = min(want, have)
			}
			if got := impl.RoughGet(r, thing); got != want {
				t.Errorf("RoughGet of %d of %v is %d, not %d", thing, list, got, want)
			}
		}
	}
}

func TestPromise35RoughGetMayTellMore(t *testing.T) {
	// In the rows 0 and 2 the thing 13 has the place of 0, in row 1 it is 8.
	for _, c := range []struct {
		list        []int
		thing, most int
	}{
		{[]int{13, 13}, 0, 0},
		{[]int{8, 8, 8}, 0, 0},
		{[]int{13, 8}, 0, 1},
		{[]int{13, 13, 8}, 0, 1},
		{[]int{13, 8, 0}, 0, 2},
		{[]int{13, 8, 0, 13}, 0, 2},
		{often(0, 3), 5, 0},
		{often(63, 100), 63, 100},
		{often(63, impl.CountMax), 63, impl.CountMax},
		{inTurn(64, 1), 0, 8},
	} {
		r := countedApart(t, c.list).Rough
		if got := impl.RoughGet(r, c.thing); got != c.most {
			t.Errorf("RoughGet of %d of %v is %d, not %d", c.thing, c.list, got, c.most)
		}
	}
}

func TestPromise36FewCountIsJustSoOfFewerThanFewKeep(t *testing.T) {
	for _, list := range sampleLists() {
		different := len(timesIn(list))
		num, just := impl.FewCount(countedApart(t, list).Few)
		if just != (different < 6) || just && num != different {
			t.Errorf("of %v, %d different ones, %d %v is told", list, different, num, just)
		}
	}
}

func TestPromise36OneLessJustAndMoreThanFewKeep(t *testing.T) {
	for _, step := range []int{1, 5, 13, 31, 63} {
		for num := range 12 {
			// Each stands there twice, which must not make it two.
			list := append(inTurn(num, step), inTurn(num, step)...)
			count, just := impl.FewCount(countedApart(t, list).Few)
			if just != (num <= 5) || just && count != num {
				t.Errorf("of %d different ones %d %v is told", num, count, just)
			}
		}
	}
}

func TestPromise37WhatFewHasKnowsIsWhetherItWasCounted(t *testing.T) {
	for _, list := range sampleLists() {
		c, f := timesIn(list), countedApart(t, list).Few
		for thing := range impl.Things {
			has, known := impl.FewHas(f, thing)
			if known && has != (c[thing] > 0) || has && !known {
				t.Errorf("of %v FewHas of %d is %v %v", list, thing, has, known)
			}
			if len(c) < 6 && !known {
				t.Errorf("of %v it is not known of %d", list, thing)
			}
		}
	}
}

func TestPromise37WhatFewHasKnowsOfPiecesIsSo(t *testing.T) {
	join := func(a impl.Sum, b impl.Sum) impl.Sum { return joinedApart(t, a, b) }
	eachJoined(t, join, func(list []int, joined impl.Sum) {
		c := timesIn(list)
		for thing := range impl.Things {
			if has, known := impl.FewHas(joined.Few, thing); known && has != (c[thing] > 0) || has && !known {
				t.Fatalf("of %v FewHas of %d is %v %v", list, thing, has, known)
			}
		}
	})
}

func TestPromise38TopGetIsBetween(t *testing.T) {
	for _, list := range sampleLists() {
		c, x := timesIn(list), countedApart(t, list).Top
		for thing := range impl.Things {
			least, most := impl.TopGet(x, thing)
			mustBeBetween(t, "TopGet", thing, c[thing], least, most)
		}
	}
}

func TestPromise38TopGetIsBetweenAtEachStep(t *testing.T) {
	for _, step := range []int{1, 7, 13} {
		x, c := impl.Top{}, times{}
		for _, thing := range slices.Concat(inTurn(150, step), often(63, 20), inTurn(30, step)) {
			x = addTop(t, x, thing)
			c[thing]++
			for other := range impl.Things {
				least, most := impl.TopGet(x, other)
				mustBeBetween(t, "TopGet", other, c[other], least, most)
			}
		}
	}
}

// mustKeepMost fails unless those are kept that are more than a fifth of all, and not more than a fifth is lost.
func mustKeepMost(t *testing.T, what string, list []int, x impl.Top) {
	t.Helper()
	if 5*x.Lost > len(list) {
		t.Fatalf("%s: %d lost, of %d", what, x.Lost, len(list))
	}
	kept := numsOf(x)
	for thing, num := range timesIn(list) {
		if 5*num > len(list) && kept[thing] < 1 {
			t.Fatalf("%s: %d, that was counted %d times of %d, is not in %v", what, thing, num, len(list), x)
		}
	}
}

func TestPromise39LostIsAtMostAFifthAndWhoHasMoreIsKept(t *testing.T) {
	for _, list := range sampleLists() {
		x := countedApart(t, list).Top
		mustKeepMost(t, "TopAdd", list, x)
		slices.Sort(list)
		mustKeepMost(t, "TopAdd, ascending", list, countedApart(t, list).Top)
		slices.Reverse(list)
		mustKeepMost(t, "TopAdd, descending", list, countedApart(t, list).Top)
	}
}

func TestPromise39OfFourThingsNothingIsLost(t *testing.T) {
	for _, list := range sampleLists() {
		c, x := timesIn(list), countedApart(t, list).Top
		if len(c) > 4 {
			continue
		}
		if x.Lost != 0 || len(x.Pairs) != len(c) {
			t.Errorf("of %v there is %v", list, x)
		}
		for thing := range impl.Things {
			if least, most := impl.TopGet(x, thing); least != c[thing] || most != c[thing] {
				t.Errorf("TopGet of %d of %v is %d %d", thing, list, least, most)
			}
		}
	}
}

func TestPromise39JustAFifthMayBeLost(t *testing.T) {
	four, five := countedApart(t, inTurn(400, 16)).Top, countedApart(t, append(inTurn(4, 1), 63)).Top
	mustBeTop(t, "four things", four, true, topOf(0, 400, 0, 100, 16, 100, 32, 100, 48, 100))
	mustBeTop(t, "five things", five, true, topOf(1, 5))
	mustBeTop(t, "a fifth of each of five", countedApart(t, inTurn(5*13, 1)[:50]).Top, true, topOf(10, 50))
	mustBeTop(t, "one that has one more than a fifth", addTop(t, five, 63), true, topOf(1, 6, 63, 1))
}

func TestPromise40JoinedTopGetIsBetween(t *testing.T) {
	join := func(a impl.Sum, b impl.Sum) impl.Sum { return joinedApart(t, a, b) }
	eachJoined(t, join, func(list []int, joined impl.Sum) {
		c := timesIn(list)
		for thing := range impl.Things {
			least, most := impl.TopGet(joined.Top, thing)
			mustBeBetween(t, "TopGet", thing, c[thing], least, most)
		}
	})
}

func TestPromise41JoinedWhoHasMoreThanAFifthIsKept(t *testing.T) {
	join := func(a impl.Sum, b impl.Sum) impl.Sum { return joinedApart(t, a, b) }
	eachJoined(t, join, func(list []int, joined impl.Sum) {
		mustKeepMost(t, "joined", list, joined.Top)
	})
}

func TestPromise42BelowIsBetween(t *testing.T) {
	for _, list := range sampleLists() {
		r := countedApart(t, list).Rank
		for thing := range impl.Things {
			least, most := impl.RankBelow(r, thing)
			mustBeBetween(t, "RankBelow", thing, upToIn(list, thing), least, most)
		}
	}
}

func TestPromise42BelowIsBetweenAtEachStep(t *testing.T) {
	for _, step := range []int{1, 7, 63} {
		r, list := impl.Rank{}, []int{}
		for _, thing := range slices.Concat(inTurn(150, step), often(63, 20), inTurn(30, step)) {
			r, list = addRank(t, r, thing), append(list, thing)
			for other := range impl.Things {
				least, most := impl.RankBelow(r, other)
				mustBeBetween(t, "RankBelow", other, upToIn(list, other), least, most)
			}
		}
	}
}

func TestPromise43UpToAtThereAreSoMany(t *testing.T) {
	for _, list := range sampleLists() {
		r := countedApart(t, list).Rank
		parts := 6 * (len(list) / 8)
		for n := 1; n <= len(list); n += 1 + len(list)/100 {
			thing, ok := impl.RankAt(r, n)
			if !ok || upToIn(list, thing) < n {
				t.Errorf("RankAt of %d is %d %v, up to it there are %d", n, thing, ok, upToIn(list, thing))
			}
			if ahead := upToIn(list, thing-1); ahead >= n+parts {
				t.Errorf("RankAt of %d is %d, up to the one ahead there are %d", n, thing, ahead)
			}
		}
		if thing, ok := impl.RankAt(r, len(list)); ok != (len(list) > 0) || ok && upToIn(list, thing) != len(list) {
			t.Errorf("RankAt of all of %v is %d %v", list, thing, ok)
		}
	}
}

func TestPromise44OfFewerThanRankPartsBelowIsJustSo(t *testing.T) {
	random := rand.New(rand.NewPCG(13, 14))
	lists := [][]int{{}, {0}, {63}, often(0, 7), often(63, 7), inTurn(7, 1), inTurn(7, 9), inTurn(7, 63), {0, 0, 1, 62, 63, 63, 63}}
	for i := range 60 {
		list := []int{}
		for range i % 8 {
			list = append(list, random.IntN(impl.Things)>>(i%3*2))
		}
		lists = append(lists, list)
	}
	for _, list := range lists {
		r := countedApart(t, list).Rank
		for thing := range impl.Things {
			if least, most := impl.RankBelow(r, thing); least != upToIn(list, thing) || most != least {
				t.Errorf("RankBelow of %d of %v is %d %d", thing, list, least, most)
			}
		}
	}
}

func TestPromise44OfJustRankPartsBelowMayBeRough(t *testing.T) {
	r := countedApart(t, []int{0, 0, 0, 0, 0, 0, 63, 0}).Rank
	for thing, want := range map[int][2]int{0: {7, 8}, 31: {7, 8}, 62: {7, 8}, 63: {8, 8}} {
		if least, most := impl.RankBelow(r, thing); least != want[0] || most != want[1] {
			t.Errorf("RankBelow of %d is %d %d, not %v", thing, least, most, want)
		}
	}
}

func TestPromise45JoinedBelowIsBetweenAndAtMostSixPartsApart(t *testing.T) {
	join := func(a impl.Sum, b impl.Sum) impl.Sum { return joinedApart(t, a, b) }
	eachJoined(t, join, func(list []int, joined impl.Sum) {
		c, upTo := timesIn(list), 0
		for thing := range impl.Things {
			upTo += c[thing]
			least, most := impl.RankBelow(joined.Rank, thing)
			mustBeBetween(t, "RankBelow", thing, upTo, least, most)
			if most-least > 6*(len(list)/8) {
				t.Fatalf("RankBelow of %d is %d %d, of %d", thing, least, most, len(list))
			}
		}
	})
}
