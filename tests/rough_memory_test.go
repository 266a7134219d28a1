package tests

import (
	"reflect"
	"testing"

	"loop.example/inkling/impl"
)

const mark = -7777

// roomy is the same with spare room behind each list, for as much as stands in it and more, and marks there.
func roomy(r impl.Rough) impl.Rough {
	rows := [][]int{}
	for _, row := range r.Rows {
		rows = append(rows, withRoom(row, mark))
	}
	return impl.Rough{Rows: withRoom(rows, []int{mark})}
}

func withRoom[T any](list []T, spare T) []T {
	wide := append([]T{}, list...)
	for range 2*len(list) + 3 {
		wide = append(wide, spare)
	}
	return wide[:len(list)]
}

// wholeOf copies all that can be reached from r, spare room included.
func wholeOf(r impl.Rough) [][]int {
	whole := [][]int{}
	for _, row := range r.Rows[:cap(r.Rows)] {
		whole = append(whole, append([]int{}, row[:cap(row)]...))
	}
	return whole
}

// overwrite writes into all that can be reached from r, spare room included, and puts other rows there.
func overwrite(r impl.Rough) {
	for _, row := range r.Rows {
		for place := range row[:cap(row)] {
			row[:cap(row)][place] = 12345
		}
	}
	for row := range r.Rows[:cap(r.Rows)] {
		r.Rows[:cap(r.Rows)][row] = []int{54321}
	}
}

// mustHaveOwnMemory fails if writing into an answer is seen in one of those arguments, or in another row of it.
func mustHaveOwnMemory(t *testing.T, what string, answer impl.Rough, args ...impl.Rough) {
	t.Helper()
	for row := range answer.Rows {
		before := wholeOf(answer)
		wide := answer.Rows[row][:cap(answer.Rows[row])]
		for place := range wide {
			wide[place] += 1000000
			before[row][place] += 1000000
		}
		if after := wholeOf(answer); !reflect.DeepEqual(before, after) {
			t.Fatalf("%s: rows of the answer share memory: %v, not %v", what, after, before)
		}
	}
	var before [][][]int
	for _, arg := range args {
		before = append(before, wholeOf(arg))
	}
	overwrite(answer)
	for i, arg := range args {
		if after := wholeOf(arg); !reflect.DeepEqual(before[i], after) {
			t.Fatalf("%s: the answer shares memory with an argument: %v, not %v", what, after, before[i])
		}
	}
}

// mustLeave fails if a call writes into one of its arguments, or behind its end.
func mustLeave(t *testing.T, what string, call func(), args ...impl.Rough) {
	t.Helper()
	var before [][][]int
	for _, arg := range args {
		before = append(before, wholeOf(arg))
	}
	call()
	for i, arg := range args {
		if after := wholeOf(arg); !reflect.DeepEqual(before[i], after) {
			t.Fatalf("%s: an argument is written into: %v, not %v", what, after, before[i])
		}
	}
}

func TestRoughNewIsNewMemory(t *testing.T) {
	other := impl.RoughNew()
	mustHaveOwnMemory(t, "RoughNew", impl.RoughNew(), other)
	mustBe(t, "RoughNew", impl.RoughNew(), true, roughOf(times{}))
}

func TestRoughAddHasItsOwnMemory(t *testing.T) {
	for _, c := range sampleTimes() {
		for _, num := range []int{0, 1, impl.CountMax - c.all(), -1, impl.CountMax + 1} {
			for _, thing := range []int{0, 63, -1, 64} {
				r := roomy(roughOf(c))
				var x impl.Rough
				mustLeave(t, "RoughAdd", func() { x, _ = impl.RoughAdd(r, thing, num) }, r)
				mustHaveOwnMemory(t, "RoughAdd", x, r)
			}
		}
	}
}

func TestRoughJoinHasItsOwnMemory(t *testing.T) {
	for _, ca := range sampleTimes() {
		for _, cb := range sampleTimes() {
			a, b := roomy(roughOf(ca)), roomy(roughOf(cb))
			var x impl.Rough
			mustLeave(t, "RoughJoin", func() { x, _ = impl.RoughJoin(a, b) }, a, b)
			mustHaveOwnMemory(t, "RoughJoin", x, a, b)
		}
		a := roomy(roughOf(ca))
		var x impl.Rough
		mustLeave(t, "RoughJoin with itself", func() { x, _ = impl.RoughJoin(a, a) }, a)
		mustHaveOwnMemory(t, "RoughJoin with itself", x, a)
	}
}

func TestReadingWritesNothing(t *testing.T) {
	for _, c := range sampleTimes() {
		r := roomy(roughOf(c))
		mustLeave(t, "reading", func() {
			impl.RoughOk(r)
			impl.RoughAll(r)
			impl.RoughGet(r, 0)
			impl.RoughGet(r, 64)
		}, r)
	}
}

func TestBrokenOnesAreLeft(t *testing.T) {
	for name, broken := range brokenRoughs() {
		r, good := roomy(broken), roomy(roughOf(times{0: 3, 8: 2}))
		mustLeave(t, name, func() {
			impl.RoughOk(r)
			impl.RoughAll(r)
			impl.RoughGet(r, 0)
			impl.RoughAdd(r, 0, 1)
			impl.RoughJoin(r, good)
			impl.RoughJoin(good, r)
		}, r, good)
	}
}

// An argument may have one row three times over: it is read as three, and the answer's rows are three.
func TestRowsOfAnArgumentMayShareMemory(t *testing.T) {
	row := []int{1, 2, 3, 0, 0, 0, 0, 4}
	r := impl.Rough{Rows: [][]int{row, row, row}}
	want := rowsOf(row...)
	for i := range want.Rows {
		want.Rows[i][placeOf(i, 9)] += 5
	}
	x, ok := impl.RoughAdd(r, 9, 5)
	mustBe(t, "RoughAdd", x, ok, want)
	mustHaveOwnMemory(t, "RoughAdd", x, r)
	x, ok = impl.RoughJoin(r, r)
	mustBe(t, "RoughJoin", x, ok, rowsOf(2, 4, 6, 0, 0, 0, 0, 8))
	mustHaveOwnMemory(t, "RoughJoin", x, r)
}
