package tests

import (
	"math"
	"math/rand/v2"
	"slices"
	"testing"

	"loop.example/inkling/impl"
)

// pairsOf has pairs of those numbers, two by two: a thing, and its Num.
func pairsOf(numbers ...int) []impl.Pair {
	pairs := []impl.Pair{}
	for i := 0; i < len(numbers); i += 2 {
		pairs = append(pairs, impl.Pair{Thing: numbers[i], Num: numbers[i+1]})
	}
	return pairs
}

// topOf has all that is given: what is lost, all, and pairs.
func topOf(lost int, all int, numbers ...int) impl.Top {
	return impl.Top{Pairs: pairsOf(numbers...), Lost: lost, All: all}
}

// numsOf is how often each thing is kept.
func numsOf(t impl.Top) times {
	c := times{}
	for _, pair := range t.Pairs {
		c[pair.Thing] += pair.Num
	}
	return c
}

// tooMany is, without the program, the greatest number of which more than TopKeep have as much; 0, if there is none.
func tooMany(c times) int {
	for number := impl.CountMax; number > 0; number-- {
		have := 0
		for _, num := range c {
			if num >= number {
				have++
			}
		}
		if have > impl.TopKeep {
			return number
		}
	}
	return 0
}

// cutOf makes, without the program, what is kept of those times, when it is cut.
func cutOf(c times, lost int, all int) impl.Top {
	taken := tooMany(c)
	t := impl.Top{Lost: lost + taken, All: all}
	for thing := range impl.Things {
		if c[thing] > taken {
			t.Pairs = append(t.Pairs, impl.Pair{Thing: thing, Num: c[thing] - taken})
		}
	}
	return t
}

// addedTop is, without the program, what TopAdd has to answer, where it can be.
func addedTop(t impl.Top, thing int) impl.Top {
	return cutOf(both(numsOf(t), times{thing: 1}), t.Lost, t.All+1)
}

// joinedTop is, without the program, what TopJoin has to answer, where it can be.
func joinedTop(a impl.Top, b impl.Top) impl.Top {
	return cutOf(both(numsOf(a), numsOf(b)), a.Lost+b.Lost, a.All+b.All)
}

// edgeTops has the edges: no pair, TopKeep-1 and TopKeep of them, the things 0 and 63, Nums of 1 and CountMax, Lost and All of 0 and the most, together just All, and less.
func edgeTops() []impl.Top {
	return []impl.Top{
		{},
		topOf(0, 1),
		topOf(0, impl.CountMax),
		topOf(1, 5),
		topOf(1, 6),
		topOf(400, impl.CountMax),
		topOf(0, 1, 0, 1),
		topOf(0, 1, 63, 1),
		topOf(0, impl.CountMax, 0, impl.CountMax),
		topOf(0, impl.CountMax, 63, impl.CountMax),
		topOf(0, impl.CountMax-1, 63, impl.CountMax-1),
		topOf(399, impl.CountMax, 31, 5),
		topOf(399, impl.CountMax-1, 31, 4),
		topOf(0, 2, 0, 1, 63, 1),
		topOf(0, 3, 0, 1, 31, 1, 63, 1),
		topOf(0, 4, 0, 1, 1, 1, 2, 1, 3, 1),
		topOf(0, 4, 60, 1, 61, 1, 62, 1, 63, 1),
		topOf(0, 5, 1, 2, 2, 1, 3, 1, 4, 1),
		topOf(0, 8, 0, 2, 20, 2, 40, 2, 63, 2),
		topOf(0, 10, 0, 1, 20, 2, 40, 3, 63, 4),
		topOf(1, 6, 1, 1),
		topOf(2, 20, 0, 4, 20, 3, 40, 2, 63, 1),
		topOf(2, 30, 0, 1, 20, 7, 40, 3),
		topOf(0, impl.CountMax-1, 0, 500, 1, 500, 2, 500, 3, 499),
		topOf(0, impl.CountMax, 0, 500, 1, 500, 2, 500, 3, 500),
		topOf(0, impl.CountMax, 0, 1, 1, 1, 2, 1, 3, 1),
		topOf(396, impl.CountMax, 4, 5, 8, 5, 16, 5, 32, 5),
		topOf(0, 1000, 8, 250, 9, 250, 10, 250, 11, 250),
		topOf(0, 1000, 12, 250, 13, 250, 14, 250, 15, 250),
		topOf(0, 1000, 7, 1, 12, 100, 14, 249, 63, 650),
		topOf(100, 1001, 0, 501),
	}
}

// sampleTops has the edges, and many others, always the same: of each count of pairs, with and without something lost, and more or less than together.
func sampleTops() []impl.Top {
	list := edgeTops()
	random := rand.New(rand.NewPCG(5, 6))
	for i := range 40 {
		t := impl.Top{Lost: random.IntN(1 + i%4)}
		t.All = (impl.TopKeep + 1) * t.Lost
		things := random.Perm(impl.Things / (1 + i%3*3))[:i%(impl.TopKeep+1)]
		slices.Sort(things)
		for _, thing := range things {
			num := 1 + random.IntN(1+i%7*i%7)
			t.Pairs = append(t.Pairs, impl.Pair{Thing: thing, Num: num})
			t.All += num
		}
		t.All += i / 2 % 3
		list = append(list, t)
	}
	return list
}

// brokenTops are all not ok, each for one reason alone where that is possible.
func brokenTops() map[string]impl.Top {
	most := math.MaxInt
	wraps := most/5*2 + 2 // 5 times that is 4, wrapped around
	return map[string]impl.Top{
		"a pair too many":           topOf(0, 100, 0, 1, 1, 1, 2, 1, 3, 1, 4, 1),
		"far too many":              topOf(0, 100, 0, 1, 1, 1, 2, 1, 3, 1, 4, 1, 5, 1, 6, 1, 7, 1, 8, 1),
		"a pair too many, of 0":     topOf(0, 100, 0, 1, 1, 1, 2, 1, 3, 1, 4, 0),
		"descending":                topOf(0, 100, 5, 1, 4, 1),
		"all four descending":       topOf(0, 100, 63, 1, 40, 1, 20, 1, 0, 1),
		"the last two descending":   topOf(0, 100, 1, 1, 2, 1, 4, 1, 3, 1),
		"0 behind others":           topOf(0, 100, 1, 1, 0, 1),
		"0 twice":                   topOf(0, 100, 0, 1, 0, 1),
		"63 twice":                  topOf(0, 100, 63, 1, 63, 1),
		"one twice, in between":     topOf(0, 100, 3, 1, 7, 2, 7, 3, 9, 1),
		"one twice, apart":          topOf(0, 100, 3, 1, 7, 1, 3, 1),
		"a thing below 0":           topOf(0, 100, -1, 1),
		"below 0, with others":      topOf(0, 100, -1, 1, 0, 1, 1, 1),
		"a thing far below 0":       topOf(0, 100, math.MinInt, 1, 5, 1),
		"a thing above the last":    topOf(0, 100, impl.Things, 1),
		"above, with others":        topOf(0, 100, 0, 1, 1, 1, 63, 1, impl.Things, 1),
		"a thing far above":         topOf(0, 100, 5, 1, most, 1),
		"a Num of 0":                topOf(0, 100, 5, 0),
		"the last Num of 0":         topOf(0, 100, 5, 1, 6, 1, 7, 1, 8, 0),
		"the first Num of 0":        topOf(0, 100, 5, 0, 6, 1),
		"a Num below 0":             topOf(0, 100, 5, -1),
		"a Num below 0, and more":   topOf(0, 4, 5, -1, 6, 5),
		"a Num far below 0":         topOf(0, 100, 5, math.MinInt),
		"a Num above CountMax":      topOf(0, impl.CountMax, 5, impl.CountMax+1),
		"above, and below 0":        topOf(0, impl.CountMax, 5, impl.CountMax+1, 6, -1),
		"a Num far above":           topOf(0, impl.CountMax, 5, most),
		"Nums wrap around to 0":     topOf(0, impl.CountMax, 5, most, 6, most, 7, 2),
		"Nums wrap around below 0":  topOf(0, impl.CountMax, 5, most, 6, 1),
		"Lost below 0":              topOf(-1, 100),
		"Lost below 0, and a pair":  topOf(-1, 100, 5, 1),
		"Lost far below 0":          topOf(math.MinInt, 100),
		"Lost above CountMax":       topOf(impl.CountMax+1, impl.CountMax),
		"Lost at CountMax":          topOf(impl.CountMax, impl.CountMax),
		"Lost far above":            topOf(most, impl.CountMax),
		"Lost wraps around to 4":    topOf(wraps, 4),
		"All below 0":               topOf(0, -1),
		"All far below 0":           topOf(0, math.MinInt),
		"Lost and All below 0":      topOf(-1, -5),
		"All above CountMax":        topOf(0, impl.CountMax+1),
		"All above, and a pair":     topOf(0, impl.CountMax+1, 5, 1),
		"All far above":             topOf(0, most, 5, 1),
		"a Num one above All":       topOf(0, 4, 5, 5),
		"a Num, and All of 0":       topOf(0, 0, 5, 1),
		"Nums one above All":        topOf(0, 9, 1, 1, 2, 2, 3, 3, 4, 4),
		"Lost one above All":        topOf(1, 4),
		"Lost far above All":        topOf(401, impl.CountMax),
		"both one above All":        topOf(2, 13, 7, 4),
		"both above CountMax":       topOf(399, impl.CountMax, 31, 6),
		"Nums together above all":   topOf(0, impl.CountMax, 0, 500, 1, 500, 2, 500, 3, 501),
		"all four Nums at CountMax": topOf(0, impl.CountMax, 0, 2000, 1, 2000, 2, 2000, 3, 2000),
	}
}

// mustBeTop fails unless a call answered just so, and true.
func mustBeTop(t *testing.T, what string, got impl.Top, ok bool, want impl.Top) {
	t.Helper()
	if !ok || !slices.Equal(got.Pairs, want.Pairs) || got.Lost != want.Lost || got.All != want.All {
		t.Fatalf("%s: %v %v, not %v", what, got, ok, want)
	}
}

// mustRefuseTop fails unless a call answered nothing and false.
func mustRefuseTop(t *testing.T, what string, got impl.Top, ok bool) {
	t.Helper()
	if ok || len(got.Pairs) != 0 || got.Lost != 0 || got.All != 0 {
		t.Fatalf("%s: %v %v, not nothing and false", what, got, ok)
	}
}

// mustKeepAll fails unless Nums, and Lost once for each that is kept and once more, are together not above All, and all else is in form.
func mustKeepAll(t *testing.T, what string, x impl.Top) {
	t.Helper()
	if together := numsOf(x).all() + 5*x.Lost; together > x.All || x.All > impl.CountMax || len(x.Pairs) > impl.TopKeep || !impl.TopOk(x) {
		t.Fatalf("%s: %v has %d together, ok is %v", what, x, together, impl.TopOk(x))
	}
}

// addTop counts where that is known to be possible.
func addTop(t *testing.T, x impl.Top, things ...int) impl.Top {
	t.Helper()
	for _, thing := range things {
		y, ok := impl.TopAdd(x, thing)
		if !ok {
			t.Fatalf("TopAdd(%v, %d) is refused", x, thing)
		}
		x = y
	}
	return x
}

// joinTop joins where that is known to be possible.
func joinTop(t *testing.T, a impl.Top, b impl.Top) impl.Top {
	t.Helper()
	x, ok := impl.TopJoin(a, b)
	if !ok {
		t.Fatalf("TopJoin(%v, %v) is refused", a, b)
	}
	return x
}
