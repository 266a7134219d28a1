// Package impl: rough counts of many, brought together by a tree that mends itself.
package impl

// Limits of counting.
const (
	Things    = 64
	CountMax  = 2000
	RoughRows = 3
	RoughCols = 8
)

// Rough is rows of how often things were counted, several in one place.
type Rough struct {
	Rows [][]int
}

// RoughNew is one of nothing.
func RoughNew() Rough {
	rows := make([][]int, RoughRows)
	for row := range rows {
		rows[row] = make([]int, RoughCols)
	}
	return Rough{Rows: rows}
}

// RoughPlace is in which place of a row a thing is counted; -1, if there is no such row, or thing.
func RoughPlace(row int, thing int) int {
	if !isThing(thing) {
		return -1
	}
	switch row {
	case 0:
		return (3*thing + thing/8) % RoughCols
	case 1:
		return (5*thing + thing/16 + 1) % RoughCols
	case 2:
		return (thing + thing/4 + 2) % RoughCols
	}
	return -1
}

// RoughOk says whether one is in form.
func RoughOk(r Rough) bool {
	return RoughAll(r) >= 0
}

// RoughAdd counts a thing so often.
func RoughAdd(r Rough, thing int, times int) (Rough, bool) {
	if !isThing(thing) {
		return Rough{}, false
	}
	// Times below 0, or above CountMax, make one that is not ok, so that RoughJoin refuses them.
	one := RoughNew()
	for row, places := range one.Rows {
		places[RoughPlace(row, thing)] = times
	}
	return RoughJoin(r, one)
}

// RoughGet is how often a thing was counted at most; -1, if r is not ok, or that is no thing.
func RoughGet(r Rough, thing int) int {
	if !RoughOk(r) || !isThing(thing) {
		return -1
	}
	// Others may be counted in the thing's place too, so the least of them is the nearest.
	least := CountMax
	for row, places := range r.Rows {
		least = min(least, places[RoughPlace(row, thing)])
	}
	return least
}

// RoughAll is how much was counted in all; -1, if r is not ok.
func RoughAll(r Rough) int {
	if len(r.Rows) != RoughRows {
		return -1
	}
	all := rowAll(r.Rows[0])
	for _, places := range r.Rows[1:] {
		if rowAll(places) != all {
			return -1
		}
	}
	return all
}

// RoughJoin is both together.
func RoughJoin(a Rough, b Rough) (Rough, bool) {
	allA, allB := RoughAll(a), RoughAll(b)
	if allA < 0 || allB < 0 || allA+allB > CountMax {
		return Rough{}, false
	}
	return Rough{Rows: joined(a.Rows, b.Rows, rowsJoined)}, true
}

func isThing(thing int) bool {
	return thing >= 0 && thing < Things
}

// rowAll is how much a row has together; -1, if it can be no row of an ok Rough.
func rowAll(places []int) int {
	if len(places) != RoughCols {
		return -1
	}
	all := 0
	for _, num := range places {
		// Each number is held against what is left of CountMax, so that no sum wraps around.
		if num < 0 || num > CountMax-all {
			return -1
		}
		all += num
	}
	return all
}

// joined is the sum of a and b at each place; both have to be of one length.
func joined[T any](a []T, b []T, sum func(T, T) T) []T {
	list := make([]T, len(a))
	for place := range list {
		list[place] = sum(a[place], b[place])
	}
	return list
}

func rowsJoined(a []int, b []int) []int {
	return joined(a, b, plus)
}

func plus(a int, b int) int {
	return a + b
}
