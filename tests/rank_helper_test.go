package tests

import (
	"math"
	"math/rand/v2"
	"slices"
	"testing"

	"loop.example/inkling/impl"
)

// rankOf has all that is given: All, and knots, two numbers each.
func rankOf(all int, numbers ...int) impl.Rank {
	r := impl.Rank{All: all}
	for i := 0; i < len(numbers); i += 2 {
		r.Knots = append(r.Knots, impl.Knot{At: numbers[i], Num: numbers[i+1]})
	}
	return r
}

// rankWith has those numbers at their knots, and All of them together.
func rankWith(nums times) impl.Rank {
	r := impl.Rank{All: nums.all()}
	for at := 1; at <= 127; at++ {
		if nums[at] > 0 {
			r.Knots = append(r.Knots, impl.Knot{At: at, Num: nums[at]})
		}
	}
	return r
}

// atKnots is how much each knot has.
func atKnots(r impl.Rank) times {
	c := times{}
	for _, knot := range r.Knots {
		c[knot.At] += knot.Num
	}
	return c
}

// spanOf is, without the program, from which thing to which one a knot is: a half of what is above it.
func spanOf(at int) (int, int) {
	if at == 1 {
		return 0, 63
	}
	first, last := spanOf(at / 2)
	half := (last - first + 1) / 2
	if at%2 == 0 {
		return first, last - half
	}
	return first + half, last
}

// squeezedRank makes, without the program, what has counted so, when it is squeezed.
func squeezedRank(nums times) impl.Rank {
	part := nums.all() / 8
	for lower := 126; lower >= 2; lower -= 2 {
		together := nums[lower] + nums[lower+1]
		if together > 0 && nums[lower/2]+together <= part {
			nums[lower/2] += together
			nums[lower], nums[lower+1] = 0, 0
		}
	}
	return rankWith(nums)
}

// addedRank is, without the program, what RankAdd has to answer, where it can be.
func addedRank(r impl.Rank, thing int) impl.Rank {
	return squeezedRank(both(atKnots(r), times{64 + thing: 1}))
}

// joinedRank is, without the program, what RankJoin has to answer, where it can be.
func joinedRank(a impl.Rank, b impl.Rank) impl.Rank {
	return squeezedRank(both(atKnots(a), atKnots(b)))
}

// upTo is, without the program, what RankBelow has to answer: each knot is asked for all of its things, and for one.
func upTo(r impl.Rank, thing int) (int, int) {
	least, most := 0, 0
	for at, num := range atKnots(r) {
		first, last := spanOf(at)
		if thing >= last {
			least += num
		}
		if thing >= first {
			most += num
		}
	}
	return least, most
}

// edgeRanks has the edges: no knot, the first and the last ones, Nums of 1 and CountMax, All of 0, RankParts-1, RankParts and CountMax, and knots above things that have just their part.
func edgeRanks() []impl.Rank {
	list := []impl.Rank{
		{},
		rankOf(1, 64, 1),
		rankOf(1, 127, 1),
		rankOf(7, 64, 7),
		rankOf(7, 64, 3, 127, 4),
		rankOf(8, 127, 8),
		rankOf(8, 64, 4, 127, 4),
		rankOf(8, 1, 1, 64, 7),
		rankOf(8, 1, 1, 127, 7),
		rankOf(8, 2, 1, 127, 7),
		rankOf(8, 3, 1, 64, 7),
		rankOf(8, 63, 1, 126, 7),
		rankOf(8, 63, 1, 126, 3, 127, 4),
		rankOf(8, 1, 1, 2, 1, 3, 1, 63, 1, 64, 1, 126, 1, 127, 2),
		rankOf(8, 1, 1, 2, 1, 3, 1, 4, 1, 5, 1, 6, 1, 7, 1, 8, 1),
		rankOf(9, 1, 1, 64, 8),
		rankOf(15, 1, 1, 64, 14),
		rankOf(16, 1, 2, 64, 14),
		rankOf(16, 32, 2, 64, 14),
		rankOf(16, 3, 2, 6, 2, 7, 2, 127, 10),
		rankOf(23, 1, 2, 2, 2, 5, 2, 11, 2, 22, 2, 45, 2, 91, 11),
		rankOf(80, 1, 10, 2, 10, 4, 10, 8, 10, 16, 10, 32, 10, 64, 20),
		rankOf(80, 1, 10, 3, 10, 7, 10, 15, 10, 31, 10, 63, 10, 126, 20),
		rankOf(87, 1, 10, 3, 10, 6, 10, 13, 10, 26, 10, 53, 10, 107, 27),
		rankOf(999, 1, 124, 2, 124, 3, 124, 63, 124, 64, 251, 126, 251, 127, 1),
		rankOf(1000, 1, 125, 100, 875),
		rankOf(1001, 101, 1001),
		rankOf(1999, 1, 249, 63, 249, 64, 1501),
		rankOf(impl.CountMax, 64, impl.CountMax),
		rankOf(impl.CountMax, 127, impl.CountMax),
		rankOf(impl.CountMax, 1, 250, 127, 1750),
		rankOf(impl.CountMax, 64, 1, 127, 1999),
		rankOf(impl.CountMax, 1, 250, 2, 250, 3, 250, 4, 250, 5, 250, 6, 250, 7, 250, 63, 250),
		rankOf(1250, 1, 156, 2, 156, 5, 156, 10, 156, 21, 156, 43, 156, 86, 157, 87, 157),
	}
	things, knots := times{}, times{}
	for at := 1; at <= 127; at++ {
		knots[at] = 1 + at%13
		if at >= 64 {
			things[at] = 1
		}
	}
	return append(list, rankWith(things), rankWith(knots))
}

// sampleRanks has the edges, and many others, always the same: with few and many knots, and such as are squeezed, and such as are not.
func sampleRanks() []impl.Rank {
	list := edgeRanks()
	random := rand.New(rand.NewPCG(7, 8))
	for i := range 40 {
		nums := times{}
		part := i % 7
		for range i % 5 * i % 11 {
			nums[1+random.IntN(63)] = random.IntN(part + 1)
		}
		for range 1 + random.IntN(1+i*2) {
			nums[64+random.IntN(64)>>(i%3)<<(i%3)] += 1 + random.IntN(1+i%4)
		}
		// What is missing so that each knot above things has its part at most is counted of one thing.
		nums[64+random.IntN(64)] += max(0, 8*part-nums.all())
		list = append(list, rankWith(nums))
	}
	return list
}

// brokenRanks are all not ok, each for one reason alone where that is possible.
func brokenRanks() map[string]impl.Rank {
	most := math.MaxInt
	return map[string]impl.Rank{
		"descending":                   rankOf(20, 70, 10, 69, 10),
		"three descending":             rankOf(30, 127, 10, 126, 10, 64, 10),
		"the last two descending":      rankOf(30, 64, 10, 127, 10, 126, 10),
		"above things behind things":   rankOf(20, 64, 18, 1, 2),
		"descending above things":      rankOf(20, 3, 2, 2, 2, 64, 16),
		"1 twice":                      rankOf(20, 1, 1, 1, 1, 64, 18),
		"63 twice":                     rankOf(20, 63, 1, 63, 1, 64, 18),
		"64 twice":                     rankOf(20, 64, 10, 64, 10),
		"127 twice":                    rankOf(20, 127, 10, 127, 10),
		"one twice, apart":             rankOf(30, 70, 10, 80, 10, 70, 10),
		"the knot 0":                   rankOf(8, 0, 1, 64, 7),
		"the knot 0 alone":             rankOf(8, 0, 8),
		"the knot 0, of All 1":         rankOf(1, 0, 1),
		"the knot -1":                  rankOf(8, -1, 1, 64, 7),
		"the knot -64":                 rankOf(8, -64, 1, 64, 7),
		"a knot far below 0":           rankOf(8, math.MinInt, 1, 64, 7),
		"the knot 128":                 rankOf(8, 64, 7, 128, 1),
		"the knot 128 alone":           rankOf(8, 128, 8),
		"the knot 129":                 rankOf(8, 64, 7, 129, 1),
		"a knot far above":             rankOf(8, 64, 7, most, 1),
		"a Num of 0":                   rankOf(0, 64, 0),
		"a Num of 0, beside another":   rankOf(5, 64, 0, 65, 5),
		"a Num of 0 above things":      rankOf(8, 1, 0, 64, 8),
		"the last Num of 0":            rankOf(8, 64, 8, 127, 0),
		"a Num below 0":                rankOf(5, 64, -1, 65, 6),
		"a Num below 0 above things":   rankOf(8, 1, -1, 64, 9),
		"a Num and All below 0":        rankOf(-1, 64, -1),
		"a Num far below 0":            rankOf(0, 64, math.MinInt),
		"a Num above CountMax":         rankOf(impl.CountMax+1, 64, impl.CountMax+1),
		"above, and below 0":           rankOf(impl.CountMax, 64, impl.CountMax+1, 65, -1),
		"above, and All is not":        rankOf(impl.CountMax, 64, impl.CountMax+1),
		"a Num far above":              rankOf(impl.CountMax, 64, most),
		"a Num and All far above":      rankOf(most, 64, most),
		"Nums wrap around to 0":        rankOf(0, 64, most, 65, most, 66, 2),
		"Nums wrap around to 8":        rankOf(8, 64, most, 65, most, 66, 10),
		"Nums wrap around below 0":     rankOf(math.MinInt, 64, most, 65, 1),
		"together above CountMax":      rankOf(impl.CountMax+1, 64, 1000, 127, 1001),
		"above CountMax above things":  rankOf(impl.CountMax+1, 1, 1, 64, 1000, 127, 1000),
		"All of 1, and no knot":        rankOf(1),
		"All of 8, and no knot":        rankOf(8),
		"All of CountMax, and no knot": rankOf(impl.CountMax),
		"All below 0":                  rankOf(-1),
		"All far below 0":              rankOf(math.MinInt),
		"All above CountMax":           rankOf(impl.CountMax + 1),
		"All far above":                rankOf(most, 64, 1),
		"Nums one above All":           rankOf(20, 64, 10, 127, 11),
		"Nums one below All":           rankOf(20, 64, 10, 127, 9),
		"a Num, and All of 0":          rankOf(0, 64, 1),
		"above things one below All":   rankOf(20, 1, 1, 127, 18),
		"no part of 1":                 rankOf(1, 1, 1),
		"no part of 2 at the knot 5":   rankOf(2, 5, 2),
		"no part of 7":                 rankOf(7, 1, 1, 64, 6),
		"no part of 7, at the knot 63": rankOf(7, 63, 1, 127, 6),
		"1 has more than its part":     rankOf(8, 1, 2, 64, 6),
		"2 has more than its part":     rankOf(15, 2, 2, 64, 13),
		"3 has more than its part":     rankOf(23, 1, 2, 3, 3, 64, 18),
		"63 has more than its part":    rankOf(16, 63, 3, 64, 13),
		"the part is rounded down":     rankOf(1999, 63, 250, 64, 1749),
		"one more than 250":            rankOf(impl.CountMax, 1, 251, 64, 1749),
		"all of it above things":       rankOf(impl.CountMax, 63, impl.CountMax),
	}
}

// mustBeRank fails unless a call answered just so, and true.
func mustBeRank(t *testing.T, what string, got impl.Rank, ok bool, want impl.Rank) {
	t.Helper()
	if !ok || !slices.Equal(got.Knots, want.Knots) || got.All != want.All {
		t.Fatalf("%s: %v %v, not %v", what, got, ok, want)
	}
}

// mustRefuseRank fails unless a call answered nothing and false.
func mustRefuseRank(t *testing.T, what string, got impl.Rank, ok bool) {
	t.Helper()
	if ok || len(got.Knots) != 0 || got.All != 0 {
		t.Fatalf("%s: %v %v, not nothing and false", what, got, ok)
	}
}

// mustKeepParts fails unless all Nums are together All, none above things is above a part of it, and all else is in form.
func mustKeepParts(t *testing.T, what string, r impl.Rank) {
	t.Helper()
	together, last := 0, 0
	for _, knot := range r.Knots {
		if knot.At <= last || knot.At > 127 || knot.Num < 1 || knot.At < 64 && knot.Num > r.All/8 {
			t.Fatalf("%s: %v has %v", what, r, knot)
		}
		together += knot.Num
		last = knot.At
	}
	if together != r.All || r.All > impl.CountMax || !impl.RankOk(r) {
		t.Fatalf("%s: %v has %d together, ok is %v", what, r, together, impl.RankOk(r))
	}
}

// addRank counts where that is known to be possible.
func addRank(t *testing.T, r impl.Rank, things ...int) impl.Rank {
	t.Helper()
	for _, thing := range things {
		x, ok := impl.RankAdd(r, thing)
		if !ok {
			t.Fatalf("RankAdd(%v, %d) is refused", r, thing)
		}
		r = x
	}
	return r
}

// joinRank joins where that is known to be possible.
func joinRank(t *testing.T, a impl.Rank, b impl.Rank) impl.Rank {
	t.Helper()
	x, ok := impl.RankJoin(a, b)
	if !ok {
		t.Fatalf("RankJoin(%v, %v) is refused", a, b)
	}
	return x
}
