package tests

import (
	"math"
	"math/rand/v2"
	"reflect"
	"testing"

	"loop.example/inkling/impl"
)

// roughPlaces has, of each row, the place of each thing, reckoned from the chapter, but not by the program.
var roughPlaces = [impl.RoughRows]string{
	"0361472514725036250361473614725047250361503614726147250372503614",
	"1630527416305274274163052741630530527416305274164163052741630527",
	"2345701245671234670134560123567023457012456712346701345601235670",
}

func placeOf(row int, thing int) int {
	return int(roughPlaces[row][thing] - '0')
}

// times is how often each thing is counted.
type times map[int]int

func (c times) all() int {
	all := 0
	for _, num := range c {
		all += num
	}
	return all
}

// roughOf makes, without the program, what has counted so.
func roughOf(c times) impl.Rough {
	r := impl.Rough{Rows: make([][]int, impl.RoughRows)}
	for row := range r.Rows {
		r.Rows[row] = make([]int, impl.RoughCols)
		for thing, num := range c {
			r.Rows[row][placeOf(row, thing)] += num
		}
	}
	return r
}

// leastOf is, without the program, the least place of a thing.
func leastOf(r impl.Rough, thing int) int {
	least := math.MaxInt
	for row := range r.Rows {
		least = min(least, r.Rows[row][placeOf(row, thing)])
	}
	return least
}

// sampleTimes has the edges (nothing, the first and the last thing, CountMax) and many others, always the same.
func sampleTimes() []times {
	every := times{}
	for thing := range impl.Things {
		every[thing] = 1 + thing%5
	}
	list := []times{
		{},
		{0: 1},
		{63: 1},
		{0: 3, 8: 2},
		{0: 1, 63: 1},
		{0: 999, 63: 1},
		{5: 1000},
		{5: 1001},
		{17: 1999},
		{0: impl.CountMax},
		{63: impl.CountMax},
		{31: 1000, 32: 1000},
		every,
	}
	random := rand.New(rand.NewPCG(1, 2))
	for range 12 {
		c := times{}
		for range 1 + random.IntN(20) {
			c[random.IntN(impl.Things)] += random.IntN(60)
		}
		list = append(list, c)
	}
	return list
}

// noThings are numbers that are no things.
func noThings() []int {
	return []int{-1, impl.Things, -8, impl.Things + 1, 1000, math.MinInt, math.MaxInt}
}

// rowsOf has the same row RoughRows times, each with memory of its own.
func rowsOf(row ...int) impl.Rough {
	r := impl.Rough{}
	for range impl.RoughRows {
		r.Rows = append(r.Rows, append([]int{}, row...))
	}
	return r
}

// brokenRoughs are all not ok, each for one reason alone where that is possible.
func brokenRoughs() map[string]impl.Rough {
	good := func() impl.Rough { return roughOf(times{0: 3, 8: 2}) }
	most := math.MaxInt
	list := map[string]impl.Rough{
		"nothing":                   {},
		"no rows":                   {Rows: [][]int{}},
		"a row too few":             {Rows: good().Rows[:impl.RoughRows-1]},
		"a row too many":            {Rows: append(good().Rows, good().Rows[0])},
		"no row has places":         {Rows: make([][]int, impl.RoughRows)},
		"all rows a place too few":  rowsOf(0, 0, 0, 0, 0, 0, 0),
		"all rows a place too many": rowsOf(0, 0, 0, 0, 0, 0, 0, 0, 0),
		"below 0":                   rowsOf(-1, 1, 0, 0, 0, 0, 0, 0),
		"all below 0":               rowsOf(-1, 0, 0, 0, 0, 0, 0, 0),
		"far below 0":               rowsOf(math.MinInt, 0, 0, 0, 0, 0, 0, 0),
		"above CountMax":            rowsOf(0, 0, 0, 0, 0, 0, 0, impl.CountMax+1),
		"above, and below 0":        rowsOf(impl.CountMax+1, -1, 0, 0, 0, 0, 0, 0),
		"together too much":         rowsOf(impl.CountMax, 0, 0, 0, 0, 0, 0, 1),
		"together far too much":     rowsOf(1999, 1999, 1999, 1999, 1999, 1999, 1999, 1999),
		"wraps around to 0":         rowsOf(most, most, 2, 0, 0, 0, 0, 0),
		"wraps around below 0":      rowsOf(most, 1, 0, 0, 0, 0, 0, 0),
		"wraps around behind 1":     rowsOf(1, most, most, 1, 0, 0, 0, 0),
		"wraps around twice":        rowsOf(2, most, most, 3, 0, 0, 0, 0),
	}
	for row := range impl.RoughRows {
		name := " in row " + string(rune('0'+row))
		list["a place too few"+name] = with(good(), func(r impl.Rough) { r.Rows[row] = []int{5, 0, 0, 0, 0, 0, 0} })
		list["a place too many"+name] = with(good(), func(r impl.Rough) { r.Rows[row] = append(r.Rows[row], 0) })
		list["no places"+name] = with(good(), func(r impl.Rough) { r.Rows[row] = nil })
		list["no places of nothing"+name] = with(impl.RoughNew(), func(r impl.Rough) { r.Rows[row] = nil })
		list["one more"+name] = with(good(), func(r impl.Rough) { r.Rows[row][7]++ })
		list["one less"+name] = with(good(), func(r impl.Rough) { r.Rows[row] = []int{0, 1, 1, 2, 0, 0, 0, 0} })
		list["below 0"+name] = with(good(), func(r impl.Rough) { r.Rows[row] = []int{6, -1, 0, 0, 0, 0, 0, 0} })
		list["one above CountMax"+name] = with(roughOf(times{0: impl.CountMax}), func(r impl.Rough) { r.Rows[row][placeOf(row, 0)]++ })
		list["above CountMax, and below 0"+name] = with(good(), func(r impl.Rough) { r.Rows[row] = []int{impl.CountMax + 1, 4 - impl.CountMax, 0, 0, 0, 0, 0, 0} })
	}
	return list
}

func with(r impl.Rough, change func(r impl.Rough)) impl.Rough {
	change(r)
	return r
}

// mustBe fails unless a call answered just so, and true.
func mustBe(t *testing.T, what string, got impl.Rough, ok bool, want impl.Rough) {
	t.Helper()
	if !ok || !reflect.DeepEqual(got, want) {
		t.Fatalf("%s: %v %v, not %v", what, got, ok, want)
	}
}

// mustRefuse fails unless a call answered nothing and false.
func mustRefuse(t *testing.T, what string, got impl.Rough, ok bool) {
	t.Helper()
	if ok || len(got.Rows) != 0 {
		t.Fatalf("%s: %v %v, not nothing and false", what, got, ok)
	}
}

// add counts where that is known to be possible.
func add(t *testing.T, r impl.Rough, thing int, num int) impl.Rough {
	t.Helper()
	x, ok := impl.RoughAdd(r, thing, num)
	if !ok {
		t.Fatalf("RoughAdd(%v, %d, %d) is refused", r, thing, num)
	}
	return x
}
