package tests

import (
	"testing"

	"loop.example/inkling/impl"
)

func TestPromise21NumsAndLostAreTogetherNotAboveAll(t *testing.T) {
	for _, a := range sampleTops() {
		mustKeepAll(t, "a sample", a)
		for thing := range impl.Things {
			if a.All < impl.CountMax {
				mustKeepAll(t, "TopAdd", addTop(t, a, thing))
			}
		}
		for _, b := range sampleTops() {
			if a.All+b.All <= impl.CountMax {
				mustKeepAll(t, "TopJoin", joinTop(t, a, b))
			}
		}
	}
}

func TestPromise21OkIsJustUpToAll(t *testing.T) {
	lists := [][]int{{}, {0, 1}, {63, 7}, {5, 2, 6, 1}, {0, 1, 1, 2, 2, 3}, {0, 1, 20, 20, 40, 3, 63, 4}, {0, 500, 1, 500, 2, 500, 3, 495}}
	for _, numbers := range lists {
		nums := numsOf(topOf(0, 0, numbers...)).all()
		for _, lost := range []int{0, 1, 2, 7, 100, 399, 400, 401, 1999, impl.CountMax} {
			together := nums + 5*lost
			for _, all := range []int{-1, 0, together - 1, together, together + 1, impl.CountMax, impl.CountMax + 1} {
				x := topOf(lost, all, numbers...)
				if want := together <= all && all >= 0 && all <= impl.CountMax; impl.TopOk(x) != want {
					t.Errorf("TopOk(%v) is %v", x, !want)
				}
			}
		}
	}
}

func TestPromise21OkIsJustOfThingsThatAscend(t *testing.T) {
	for a := -2; a < impl.Things+2; a++ {
		isA := a >= 0 && a < impl.Things
		if one := topOf(0, 2, a, 1); impl.TopOk(one) != isA {
			t.Errorf("TopOk(%v) is %v", one, !isA)
		}
		for b := -2; b < impl.Things+2; b++ {
			want := isA && a < b && b < impl.Things
			if two := topOf(0, 2, a, 1, b, 1); impl.TopOk(two) != want {
				t.Errorf("TopOk(%v) is %v", two, !want)
			}
		}
	}
}

func TestPromise21OkIsJustOfNumsThatCanBe(t *testing.T) {
	for num := -2; num <= impl.CountMax+2; num++ {
		want := num >= 1 && num <= impl.CountMax
		if x := topOf(0, impl.CountMax, 9, num); impl.TopOk(x) != want {
			t.Errorf("TopOk(%v) is %v", x, !want)
		}
		// Beside others a Num that is too small must not be made up for.
		want = num >= 1 && num <= impl.CountMax-5
		if x := topOf(0, impl.CountMax, 0, 1, 8, 2, 9, num, 10, 2); impl.TopOk(x) != want {
			t.Errorf("TopOk(%v) is %v", x, !want)
		}
	}
}

func TestPromise21BrokenOnesAreToldAtEveryFunction(t *testing.T) {
	for name, x := range brokenTops() {
		if impl.TopOk(x) {
			t.Errorf("%s: ok", name)
		}
		for _, thing := range append(marksTo(0, 63), noThings()...) {
			if least, most := impl.TopGet(x, thing); least != -1 || most != -1 {
				t.Errorf("%s: TopGet of %d is %d %d, not -1 -1", name, thing, least, most)
			}
			got, ok := impl.TopAdd(x, thing)
			mustRefuseTop(t, "TopAdd, "+name, got, ok)
		}
		for _, other := range append(sampleTops(), x) {
			got, ok := impl.TopJoin(x, other)
			mustRefuseTop(t, "TopJoin behind, "+name, got, ok)
			got, ok = impl.TopJoin(other, x)
			mustRefuseTop(t, "TopJoin ahead, "+name, got, ok)
		}
		for other, y := range brokenTops() {
			got, ok := impl.TopJoin(x, y)
			mustRefuseTop(t, "TopJoin, "+name+" and "+other, got, ok)
		}
	}
}

func TestPromise22AddIsOkAndOneMore(t *testing.T) {
	for _, before := range sampleTops() {
		for thing := range impl.Things {
			x, ok := impl.TopAdd(before, thing)
			if before.All == impl.CountMax {
				mustRefuseTop(t, "one more than CountMax", x, ok)
				continue
			}
			mustBeTop(t, "TopAdd", x, ok, addedTop(before, thing))
			if !impl.TopOk(x) || x.All != before.All+1 || x.Lost < before.Lost || x.Lost > before.Lost+1 {
				t.Errorf("%v and %d: %v", before, thing, x)
			}
			for other := range impl.Things {
				least, most := impl.TopGet(before, other)
				newLeast, newMost := impl.TopGet(x, other)
				if newLeast > least+1 || newMost < most {
					t.Errorf("%v and %d: TopGet of %d is %d %d, behind %d %d", before, thing, other, newLeast, newMost, least, most)
				}
				if other == thing && newMost != most+1 || other != thing && newLeast > least {
					t.Errorf("%v and %d: TopGet of %d is %d %d, behind %d %d", before, thing, other, newLeast, newMost, least, most)
				}
			}
		}
	}
}

func TestPromise22FromNothingToOneMoreThanTopKeep(t *testing.T) {
	x := impl.Top{}
	for _, c := range []struct {
		thing int
		want  impl.Top
	}{
		{63, topOf(0, 1, 63, 1)},
		{0, topOf(0, 2, 0, 1, 63, 1)},
		{63, topOf(0, 3, 0, 1, 63, 2)},
		{30, topOf(0, 4, 0, 1, 30, 1, 63, 2)},
		{31, topOf(0, 5, 0, 1, 30, 1, 31, 1, 63, 2)},
		{63, topOf(0, 6, 0, 1, 30, 1, 31, 1, 63, 3)},
		{31, topOf(0, 7, 0, 1, 30, 1, 31, 2, 63, 3)},
		{32, topOf(1, 8, 31, 1, 63, 2)},
		{32, topOf(1, 9, 31, 1, 32, 1, 63, 2)},
		{1, topOf(1, 10, 1, 1, 31, 1, 32, 1, 63, 2)},
		{0, topOf(2, 11, 63, 1)},
		{0, topOf(2, 12, 0, 1, 63, 1)},
	} {
		x = addTop(t, x, c.thing)
		mustBeTop(t, "one by one", x, true, c.want)
	}
}

func TestPromise22CutWhereSeveralHaveAsMuch(t *testing.T) {
	ones := topOf(0, 4, 0, 1, 1, 1, 62, 1, 63, 1)
	mustBeTop(t, "all have as much", addTop(t, ones, 31), true, topOf(1, 5))
	mustBeTop(t, "all have as much, the least is new", addTop(t, topOf(0, 4, 1, 1, 2, 1, 3, 1, 4, 1), 0), true, topOf(1, 5))
	mustBeTop(t, "what is kept has as much", addTop(t, topOf(3, 25, 0, 2, 1, 2, 62, 2, 63, 2), 31), true, topOf(4, 26, 0, 1, 1, 1, 62, 1, 63, 1))
	mustBeTop(t, "two have as much as the new one", addTop(t, topOf(0, 10, 0, 1, 1, 5, 62, 1, 63, 3), 31), true, topOf(1, 11, 1, 4, 63, 2))
	mustBeTop(t, "one that is kept has one more", addTop(t, ones, 63), true, topOf(0, 5, 0, 1, 1, 1, 62, 1, 63, 2))
	mustBeTop(t, "one less than TopKeep", addTop(t, topOf(7, 38, 0, 1, 1, 1, 62, 1), 63), true, topOf(7, 39, 0, 1, 1, 1, 62, 1, 63, 1))
}

func TestPromise22AllMeetsCountMaxExactly(t *testing.T) {
	for _, c := range []struct {
		before impl.Top
		want   impl.Top
	}{
		{topOf(0, 1999), topOf(0, 2000, 63, 1)},
		{topOf(0, 1999, 63, 1999), topOf(0, 2000, 63, 2000)},
		{topOf(399, 1999, 63, 4), topOf(399, 2000, 63, 5)},
		{topOf(399, 1999, 0, 1, 1, 1, 2, 1, 3, 1), topOf(400, 2000)},
	} {
		full := addTop(t, c.before, 63)
		mustBeTop(t, "just CountMax", full, true, c.want)
		for thing := range impl.Things {
			got, ok := impl.TopAdd(full, thing)
			mustRefuseTop(t, "one more than CountMax", got, ok)
		}
	}
}

func TestPromise22OneThingUpToCountMax(t *testing.T) {
	x := impl.Top{}
	for num := 1; num <= impl.CountMax; num++ {
		x = addTop(t, x, 17)
		mustBeTop(t, "one by one", x, true, topOf(0, num, 17, num))
	}
	got, ok := impl.TopAdd(x, 17)
	mustRefuseTop(t, "one more", got, ok)
}

func TestPromise22AllThingsInTurnUpToCountMax(t *testing.T) {
	x := impl.Top{}
	for num := range impl.CountMax {
		want := addedTop(x, num*7%impl.Things)
		x = addTop(t, x, num*7%impl.Things)
		mustBeTop(t, "in turn", x, true, want)
		mustKeepAll(t, "in turn", x)
	}
	mustBeTop(t, "at last", x, true, topOf(400, impl.CountMax))
}

func TestPromise22WhatIsNoThingIsNotCounted(t *testing.T) {
	for _, x := range sampleTops() {
		for _, thing := range noThings() {
			got, ok := impl.TopAdd(x, thing)
			mustRefuseTop(t, "TopAdd of no thing", got, ok)
		}
	}
}

func TestPromise23GetIsTheNumAndThatAndLost(t *testing.T) {
	for _, x := range sampleTops() {
		nums := numsOf(x)
		for thing := range impl.Things {
			if least, most := impl.TopGet(x, thing); least != nums[thing] || most != nums[thing]+x.Lost {
				t.Errorf("TopGet(%v, %d) = %d %d", x, thing, least, most)
			}
		}
	}
}

func TestPromise23GetAtTheEdges(t *testing.T) {
	four := topOf(2, 20, 0, 4, 20, 3, 40, 2, 63, 1)
	for _, c := range []struct {
		x                  impl.Top
		thing, least, most int
	}{
		{impl.Top{}, 0, 0, 0},
		{impl.Top{}, 63, 0, 0},
		{four, 0, 4, 6},
		{four, 1, 0, 2},
		{four, 20, 3, 5},
		{four, 40, 2, 4},
		{four, 62, 0, 2},
		{four, 63, 1, 3},
		{topOf(400, 2000), 0, 0, 400},
		{topOf(0, 2000, 0, 2000), 0, 2000, 2000},
		{topOf(0, 2000, 0, 2000), 63, 0, 0},
		{topOf(0, 2000, 63, 2000), 63, 2000, 2000},
		{topOf(399, 2000, 31, 5), 31, 5, 404},
		{four, -1, -1, -1},
		{four, 64, -1, -1},
	} {
		if least, most := impl.TopGet(c.x, c.thing); least != c.least || most != c.most {
			t.Errorf("TopGet(%v, %d) = %d %d, not %d %d", c.x, c.thing, least, most, c.least, c.most)
		}
	}
}

func TestPromise23GetOfNoThing(t *testing.T) {
	for _, x := range sampleTops() {
		for _, thing := range noThings() {
			if least, most := impl.TopGet(x, thing); least != -1 || most != -1 {
				t.Errorf("TopGet(%v, %d) = %d %d, not -1 -1", x, thing, least, most)
			}
		}
	}
}

func TestPromise24JoinIsTheSameEitherWayAndOk(t *testing.T) {
	for _, a := range sampleTops() {
		for _, b := range sampleTops() {
			x, ok := impl.TopJoin(a, b)
			back, backOk := impl.TopJoin(b, a)
			if a.All+b.All > impl.CountMax {
				mustRefuseTop(t, "TopJoin, too much", x, ok)
				mustRefuseTop(t, "TopJoin back, too much", back, backOk)
				continue
			}
			mustBeTop(t, "TopJoin", x, ok, joinedTop(a, b))
			mustBeTop(t, "TopJoin back", back, backOk, joinedTop(a, b))
			if !impl.TopOk(x) {
				t.Errorf("%v and %v: %v is not ok", a, b, x)
			}
		}
	}
}

func TestPromise24JoinedWithNothingItStays(t *testing.T) {
	for _, x := range sampleTops() {
		mustBeTop(t, "with nothing behind", joinTop(t, x, impl.Top{}), true, x)
		mustBeTop(t, "with nothing ahead", joinTop(t, topOf(0, 0), x), true, x)
	}
}

func TestPromise24JoinCutsToTopKeep(t *testing.T) {
	for name, c := range map[string]struct{ a, b, want impl.Top }{
		"TopKeep-1 of both": {
			topOf(0, 3, 0, 2, 63, 1), topOf(0, 4, 0, 1, 7, 3),
			topOf(0, 7, 0, 3, 7, 3, 63, 1)},
		"TopKeep of both": {
			topOf(1, 9, 0, 3, 63, 1), topOf(2, 20, 1, 2, 62, 4),
			topOf(3, 29, 0, 3, 1, 2, 62, 4, 63, 1)},
		"the same TopKeep": {
			topOf(1, 15, 0, 1, 20, 2, 40, 3, 63, 4), topOf(0, 10, 0, 4, 20, 3, 40, 2, 63, 1),
			topOf(1, 25, 0, 5, 20, 5, 40, 5, 63, 5)},
		"one more than TopKeep": {
			topOf(0, 10, 0, 3, 20, 4, 63, 3), topOf(0, 9, 10, 5, 40, 4),
			topOf(3, 19, 10, 2, 20, 1, 40, 1)},
		"one more than TopKeep, the least apart": {
			topOf(0, 10, 0, 1, 20, 4, 63, 5), topOf(0, 9, 10, 5, 40, 4),
			topOf(1, 19, 10, 4, 20, 3, 40, 3, 63, 4)},
		"all of twice TopKeep have as much": {
			topOf(0, 12, 0, 3, 1, 3, 2, 3, 3, 3), topOf(0, 12, 60, 3, 61, 3, 62, 3, 63, 3),
			topOf(3, 24)},
		"those behind have less than is taken": {
			topOf(0, 100, 0, 9, 1, 8, 2, 7, 3, 6), topOf(0, 100, 60, 5, 61, 4, 62, 3, 63, 2),
			topOf(5, 200, 0, 4, 1, 3, 2, 2, 3, 1)},
		"several have as much at the cut": {
			topOf(0, 100, 0, 9, 1, 5, 2, 5, 3, 5), topOf(0, 100, 60, 5, 61, 4, 62, 9, 63, 5),
			topOf(5, 200, 0, 4, 62, 4)},
		"one is in both, and the most then": {
			topOf(4, 40, 0, 5, 1, 5, 2, 5, 3, 5), topOf(3, 30, 3, 5, 4, 4),
			topOf(11, 70, 0, 1, 1, 1, 2, 1, 3, 6)},
		"what is lost is not kept": {
			topOf(5, 25), topOf(5, 26, 9, 1),
			topOf(10, 51, 9, 1)},
	} {
		mustBeTop(t, name, joinTop(t, c.a, c.b), true, c.want)
		mustBeTop(t, name+", back", joinTop(t, c.b, c.a), true, c.want)
	}
}

func TestPromise24JoinMeetsCountMaxExactly(t *testing.T) {
	for _, all := range []int{0, 1, 1000, 1999, impl.CountMax} {
		rest := impl.CountMax - all
		for _, c := range []struct{ a, b, want impl.Top }{
			{topOf(0, all), topOf(0, rest), topOf(0, impl.CountMax)},
			{topOf(all/5, all), topOf(rest/5, rest), topOf(all/5+rest/5, impl.CountMax)},
		} {
			mustBeTop(t, "just CountMax", joinTop(t, c.a, c.b), true, c.want)
			if rest < impl.CountMax {
				c.b.All++
				got, ok := impl.TopJoin(c.a, c.b)
				mustRefuseTop(t, "one more than CountMax", got, ok)
				got, ok = impl.TopJoin(c.b, c.a)
				mustRefuseTop(t, "one more than CountMax, back", got, ok)
			}
		}
	}
	half := topOf(0, 1000, 8, 1000)
	mustBeTop(t, "a Num of CountMax", joinTop(t, half, half), true, topOf(0, 2000, 8, 2000))
	for _, more := range []impl.Top{topOf(0, 1001, 8, 1001), topOf(0, 1001, 9, 1), topOf(200, 1001), topOf(0, impl.CountMax)} {
		got, ok := impl.TopJoin(half, more)
		mustRefuseTop(t, "more than CountMax", got, ok)
	}
}

func TestPromise24AddIsJoinWithOne(t *testing.T) {
	for _, x := range sampleTops() {
		for thing := range impl.Things {
			if x.All < impl.CountMax {
				mustBeTop(t, "TopJoin with one", joinTop(t, topOf(0, 1, thing, 1), x), true, addTop(t, x, thing))
			}
		}
	}
}

func TestTopKeepIsThatOfTheTable(t *testing.T) {
	if impl.TopKeep != 4 {
		t.Error(impl.TopKeep)
	}
}
