package tests

import (
	"slices"
	"testing"

	"loop.example/inkling/impl"
)

// bare lays the list of a Few open to the checks of memory, that are made for rows.
func bare(f impl.Few) impl.Rough {
	return impl.Rough{Rows: [][]int{f.Kept}}
}

func roomyFew(f impl.Few) impl.Few {
	return impl.Few{Kept: withRoom(f.Kept, mark)}
}

func TestFewAddHasItsOwnMemory(t *testing.T) {
	for _, marks := range sampleMarks() {
		for _, thing := range append(marksTo(0, 63), noThings()...) {
			f := roomyFew(fewOf(marks...))
			var x impl.Few
			mustLeave(t, "FewAdd", func() { x, _ = impl.FewAdd(f, thing) }, bare(f))
			mustHaveOwnMemory(t, "FewAdd", bare(x), bare(f))
		}
	}
}

func TestFewJoinHasItsOwnMemory(t *testing.T) {
	for _, ma := range sampleMarks() {
		for _, mb := range sampleMarks() {
			a, b := roomyFew(fewOf(ma...)), roomyFew(fewOf(mb...))
			var x impl.Few
			mustLeave(t, "FewJoin", func() { x, _ = impl.FewJoin(a, b) }, bare(a), bare(b))
			mustHaveOwnMemory(t, "FewJoin", bare(x), bare(a), bare(b))
		}
		a := roomyFew(fewOf(ma...))
		var x impl.Few
		mustLeave(t, "FewJoin with itself", func() { x, _ = impl.FewJoin(a, a) }, bare(a))
		mustHaveOwnMemory(t, "FewJoin with itself", bare(x), bare(a))
	}
}

// Behind the end of the first argument the second one stands, in the same memory.
func TestFewsMayStandBehindEachOtherInMemory(t *testing.T) {
	list := []int{3, 9, 31, 0, 11, 20, 63}
	a, b := impl.Few{Kept: list[:3]}, impl.Few{Kept: list[3:]}
	for range 2 {
		mustBeFew(t, "FewJoin", joinFew(t, a, b), true, impl.Few{Kept: []int{0, 3, 9, 11, 20, 31}})
		mustBeFew(t, "FewJoin back", joinFew(t, b, a), true, impl.Few{Kept: []int{0, 3, 9, 11, 20, 31}})
		mustBeFew(t, "FewAdd", addFew(t, a, thingOf(40)), true, impl.Few{Kept: []int{3, 9, 31, 40}})
	}
	if !slices.Equal(list, []int{3, 9, 31, 0, 11, 20, 63}) {
		t.Error(list)
	}
}

func TestTwoAnswersOfFewShareNoMemory(t *testing.T) {
	for _, marks := range sampleMarks() {
		f := fewOf(marks...)
		other := addFew(t, f, 0)
		mustHaveOwnMemory(t, "FewAdd", bare(addFew(t, f, 0)), bare(other))
		other = joinFew(t, f, f)
		mustHaveOwnMemory(t, "FewJoin", bare(joinFew(t, f, f)), bare(other))
	}
}

func TestReadingFewWritesNothing(t *testing.T) {
	for _, marks := range sampleMarks() {
		f := roomyFew(fewOf(marks...))
		mustLeave(t, "reading", func() {
			impl.FewOk(f)
			impl.FewCount(f)
			for _, thing := range append(marksTo(0, 63), noThings()...) {
				impl.FewHas(f, thing)
			}
		}, bare(f))
	}
}

func TestBrokenFewsAreLeft(t *testing.T) {
	for name, broken := range brokenFews() {
		f, good := roomyFew(broken), roomyFew(fewOf(0, 3, 9))
		mustLeave(t, name, func() {
			impl.FewOk(f)
			impl.FewCount(f)
			impl.FewHas(f, 0)
			impl.FewAdd(f, 0)
			impl.FewJoin(f, good)
			impl.FewJoin(good, f)
		}, bare(f), bare(good))
	}
}
