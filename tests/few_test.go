package tests

import (
	"slices"
	"testing"

	"loop.example/inkling/impl"
)

func TestPromise11EachThingHasAMarkOfItsOwn(t *testing.T) {
	whose := map[int]int{}
	for thing := range impl.Things {
		mark := impl.FewMark(thing)
		if mark != fewMarks[thing] {
			t.Errorf("FewMark(%d) = %d, not %d", thing, mark, fewMarks[thing])
		}
		if other, ok := whose[mark]; ok {
			t.Errorf("%d and %d have both the mark %d", other, thing, mark)
		}
		whose[mark] = thing
	}
}

func TestPromise11WhatIsNoThingHasNoMark(t *testing.T) {
	for _, thing := range noThings() {
		if mark := impl.FewMark(thing); mark != -1 {
			t.Errorf("FewMark(%d) = %d, not -1", thing, mark)
		}
	}
}

func TestPromise12PartsOfWhatIsKeptAreOk(t *testing.T) {
	for _, marks := range sampleMarks() {
		kept := fewOf(marks...).Kept
		for part := range 1 << len(kept) {
			f := impl.Few{}
			for place, mark := range kept {
				if part>>place&1 == 1 {
					f.Kept = append(f.Kept, mark)
				}
			}
			if !impl.FewOk(f) {
				t.Errorf("%v, a part of %v, is not ok", f, kept)
			}
		}
	}
}

func TestPromise12OkIsJustWhatAscendsAndIsOfMarks(t *testing.T) {
	if !impl.FewOk(impl.Few{}) || !impl.FewOk(impl.Few{Kept: []int{}}) {
		t.Error("no marks are not ok")
	}
	for a := -2; a < impl.Things+2; a++ {
		if one := (impl.Few{Kept: []int{a}}); impl.FewOk(one) != (a >= 0 && a < impl.Things) {
			t.Errorf("%v: ok is %v", one, impl.FewOk(one))
		}
		for b := -2; b < impl.Things+2; b++ {
			two := impl.Few{Kept: []int{a, b}}
			if impl.FewOk(two) != (a >= 0 && a < b && b < impl.Things) {
				t.Errorf("%v: ok is %v", two, impl.FewOk(two))
			}
		}
	}
}

func TestPromise12BrokenOnesAreToldAtEveryFunction(t *testing.T) {
	for name, f := range brokenFews() {
		if impl.FewOk(f) {
			t.Errorf("%s: ok", name)
		}
		if num, just := impl.FewCount(f); num != 0 || just {
			t.Errorf("%s: FewCount is %d %v, not 0 false", name, num, just)
		}
		for _, thing := range append(marksTo(0, 63), noThings()...) {
			if has, known := impl.FewHas(f, thing); has || known {
				t.Errorf("%s: FewHas of %d is %v %v, not false false", name, thing, has, known)
			}
			got, ok := impl.FewAdd(f, thing)
			mustRefuseFew(t, "FewAdd, "+name, got, ok)
		}
		for _, marks := range sampleMarks() {
			got, ok := impl.FewJoin(f, fewOf(marks...))
			mustRefuseFew(t, "FewJoin behind, "+name, got, ok)
			got, ok = impl.FewJoin(fewOf(marks...), f)
			mustRefuseFew(t, "FewJoin ahead, "+name, got, ok)
		}
		for other, g := range brokenFews() {
			got, ok := impl.FewJoin(f, g)
			mustRefuseFew(t, "FewJoin, "+name+" and "+other, got, ok)
		}
	}
}

func TestPromise13CountedOnceMoreNothingChanges(t *testing.T) {
	for _, marks := range sampleMarks() {
		f := fewOf(marks...)
		for thing := range impl.Things {
			once := addFew(t, f, thing)
			mustBeFew(t, "counted once", once, true, fewOf(append(marks, fewMarks[thing])...))
			mustBeFew(t, "counted twice", addFew(t, once, thing), true, once)
			if !impl.FewOk(once) || len(once.Kept) > len(f.Kept)+1 || len(once.Kept) < len(f.Kept) {
				t.Errorf("%v and %d: %v", f, thing, once)
			}
			if slices.Contains(marks, fewMarks[thing]) {
				mustBeFew(t, "counted before", once, true, f)
			}
		}
	}
}

func TestPromise13FromNothingToOneMoreThanFewKeep(t *testing.T) {
	f := impl.Few{}
	for place, thing := range []int{36, 17, 4, 0, 54, 1, 62} {
		f = addFew(t, f, thing)
		want := [][]int{{63}, {0, 63}, {0, 31, 63}, {0, 11, 31, 63}, {0, 11, 25, 31, 63}, {0, 11, 25, 31, 48, 63}, {0, 1, 11, 25, 31, 48}}[place]
		mustBeFew(t, "one by one", f, true, impl.Few{Kept: want})
	}
	mustBeFew(t, "the mark 63, that is beyond", addFew(t, f, 36), true, f)
	mustBeFew(t, "the mark 49, that is beyond", addFew(t, f, 46), true, f)
	mustBeFew(t, "the mark 48, the greatest itself", addFew(t, f, 1), true, f)
	mustBeFew(t, "the mark 47, one below", addFew(t, f, 20), true, impl.Few{Kept: []int{0, 1, 11, 25, 31, 47}})
}

func TestPromise13WhatIsNoThingIsNotCounted(t *testing.T) {
	for _, marks := range sampleMarks() {
		for _, thing := range noThings() {
			got, ok := impl.FewAdd(fewOf(marks...), thing)
			mustRefuseFew(t, "FewAdd of no thing", got, ok)
		}
	}
}

func TestPromise14TwoThingsMayBeCountedInEitherOrder(t *testing.T) {
	for _, marks := range sampleMarks() {
		f := fewOf(marks...)
		for a := range impl.Things {
			for b := range impl.Things {
				want := fewOf(append(marks, fewMarks[a], fewMarks[b])...)
				mustBeFew(t, "in this order", addFew(t, f, a, b), true, want)
				mustBeFew(t, "in the other", addFew(t, f, b, a), true, want)
			}
		}
	}
}

func TestPromise15JoinIsTheSameEitherWayAndOnceMore(t *testing.T) {
	for _, a := range sampleMarks() {
		for _, b := range sampleMarks() {
			want := fewOf(append(slices.Clone(a), b...)...)
			x := joinFew(t, fewOf(a...), fewOf(b...))
			mustBeFew(t, "FewJoin", x, true, want)
			mustBeFew(t, "the other way", joinFew(t, fewOf(b...), fewOf(a...)), true, want)
			mustBeFew(t, "with the first once more", joinFew(t, x, fewOf(a...)), true, want)
			mustBeFew(t, "with the second once more", joinFew(t, x, fewOf(b...)), true, want)
			mustBeFew(t, "ahead once more", joinFew(t, fewOf(b...), x), true, want)
			if !impl.FewOk(x) {
				t.Errorf("%v is not ok", x)
			}
		}
	}
}

func TestPromise15JoinedWithItselfOrNothingItStays(t *testing.T) {
	for _, marks := range sampleMarks() {
		f := fewOf(marks...)
		mustBeFew(t, "with itself", joinFew(t, f, f), true, f)
		mustBeFew(t, "with the same", joinFew(t, f, fewOf(marks...)), true, f)
		mustBeFew(t, "with nothing behind", joinFew(t, f, impl.Few{}), true, f)
		mustBeFew(t, "with nothing ahead", joinFew(t, impl.Few{Kept: []int{}}, f), true, f)
	}
}

func TestPromise15JoinKeepsTheLeastOfBoth(t *testing.T) {
	for _, c := range []struct{ a, b, want []int }{
		{nil, nil, nil},
		{[]int{0}, []int{63}, []int{0, 63}},
		{[]int{0, 1, 2}, []int{3, 4}, []int{0, 1, 2, 3, 4}},
		{[]int{0, 2, 4}, []int{1, 3, 5}, []int{0, 1, 2, 3, 4, 5}},
		{[]int{0, 2, 4, 6}, []int{1, 3, 5}, []int{0, 1, 2, 3, 4, 5}},
		{[]int{58, 59, 60, 61, 62, 63}, []int{0}, []int{0, 58, 59, 60, 61, 62}},
		{[]int{0, 1, 2, 3, 4, 5}, []int{58, 59, 60, 61, 62, 63}, []int{0, 1, 2, 3, 4, 5}},
		{[]int{0, 1, 2, 3, 4, 6}, []int{0, 1, 2, 3, 4, 5}, []int{0, 1, 2, 3, 4, 5}},
		{[]int{11, 21, 48, 58}, []int{0, 3, 9, 11, 20, 31}, []int{0, 3, 9, 11, 20, 21}},
	} {
		mustBeFew(t, "FewJoin", joinFew(t, impl.Few{Kept: c.a}, impl.Few{Kept: c.b}), true, impl.Few{Kept: c.want})
	}
}

func TestPromise16WhichTwoOfThreeAreJoinedFirst(t *testing.T) {
	for _, a := range sampleMarks() {
		for _, b := range sampleMarks() {
			for _, c := range sampleMarks() {
				fa, fb, fc := fewOf(a...), fewOf(b...), fewOf(c...)
				want := fewOf(slices.Concat(a, b, c)...)
				mustBeFew(t, "the first two first", joinFew(t, joinFew(t, fa, fb), fc), true, want)
				mustBeFew(t, "the last two first", joinFew(t, fa, joinFew(t, fb, fc)), true, want)
				mustBeFew(t, "the outer two first", joinFew(t, joinFew(t, fa, fc), fb), true, want)
			}
		}
	}
}

func TestPromise17CountIsJustSoBelowFewKeep(t *testing.T) {
	f := impl.Few{}
	for num, thing := range []int{36, 17, 4, 0, 54} {
		if count, just := impl.FewCount(f); count != num || !just {
			t.Errorf("FewCount(%v) = %d %v, not %d true", f, count, just, num)
		}
		f = addFew(t, f, thing, thing)
	}
	for _, marks := range sampleMarks() {
		things := map[int]bool{}
		for _, mark := range marks {
			things[mark] = true
		}
		count, just := impl.FewCount(fewOf(marks...))
		if just != (len(things) < impl.FewKeep) || just && count != len(things) {
			t.Errorf("FewCount of %d things is %d %v", len(things), count, just)
		}
	}
}

func TestPromise17CountOfFullOnesIsByTheGreatest(t *testing.T) {
	for greatest := impl.FewKeep - 1; greatest < impl.Things; greatest++ {
		// Rounded down: as many as still fit into it, and not one more.
		want := 0
		for (want+1)*(greatest+1) <= (impl.FewKeep-1)*impl.Things {
			want++
		}
		for _, below := range [][]int{{0, 1, 2, 3, 4}, marksTo(greatest-5, greatest-1)} {
			f := impl.Few{Kept: append(below, greatest)}
			count, just := impl.FewCount(f)
			if count != want || just || count < impl.FewKeep-1 || count > impl.Things {
				t.Errorf("FewCount(%v) = %d %v, not %d false", f, count, just, want)
			}
		}
	}
	for greatest, want := range map[int]int{5: 53, 6: 45, 30: 10, 31: 10, 32: 9, 62: 5, 63: 5} {
		if count, just := impl.FewCount(fewOf(0, 1, 2, 3, 4, greatest)); count != want || just {
			t.Errorf("FewCount up to %d is %d %v, not %d false", greatest, count, just, want)
		}
	}
}

func TestPromise18HasTellsOfAsManyThingsAsMarksAreKept(t *testing.T) {
	for _, marks := range sampleMarks() {
		f := fewOf(marks...)
		counted := 0
		for thing, mark := range fewMarks {
			has, known := impl.FewHas(f, thing)
			kept := slices.Contains(f.Kept, mark)
			beyond := len(f.Kept) == impl.FewKeep && mark > f.Kept[impl.FewKeep-1]
			if has != kept || known == beyond {
				t.Errorf("FewHas(%v, %d) = %v %v", f, thing, has, known)
			}
			if known && has != slices.Contains(marks, mark) {
				t.Errorf("of %v FewHas knows that %d is %v", marks, thing, has)
			}
			if has {
				counted++
			}
		}
		if counted != len(f.Kept) {
			t.Errorf("FewHas tells of %d things, kept are %v", counted, f.Kept)
		}
	}
}

func TestPromise18HasAtTheGreatestMark(t *testing.T) {
	full := impl.Few{Kept: []int{0, 3, 9, 11, 20, 31}}
	five := impl.Few{Kept: []int{0, 3, 9, 11, 20}}
	to63 := impl.Few{Kept: []int{0, 1, 2, 3, 4, 63}}
	for _, c := range []struct {
		f          impl.Few
		mark       int
		has, known bool
	}{
		{full, 30, false, true},
		{full, 31, true, true},
		{full, 32, false, false},
		{full, 63, false, false},
		{full, 0, true, true},
		{full, 1, false, true},
		{five, 19, false, true},
		{five, 20, true, true},
		{five, 21, false, true},
		{five, 63, false, true},
		{to63, 62, false, true},
		{to63, 63, true, true},
		{impl.Few{}, 0, false, true},
		{impl.Few{}, 63, false, true},
	} {
		if has, known := impl.FewHas(c.f, thingOf(c.mark)); has != c.has || known != c.known {
			t.Errorf("FewHas(%v, the thing of %d) = %v %v", c.f, c.mark, has, known)
		}
	}
}

func TestPromise18HasOfNoThing(t *testing.T) {
	for _, marks := range sampleMarks() {
		for _, thing := range noThings() {
			if has, known := impl.FewHas(fewOf(marks...), thing); has || known {
				t.Errorf("FewHas(%v, %d) = %v %v, not false false", fewOf(marks...), thing, has, known)
			}
		}
	}
}

func TestPromise19WhatHasKnowsOfBothIsSoOfOne(t *testing.T) {
	for _, a := range sampleMarks() {
		for _, b := range sampleMarks() {
			fa, fb := fewOf(a...), fewOf(b...)
			x := joinFew(t, fa, fb)
			for thing := range impl.Things {
				has, known := impl.FewHas(x, thing)
				hasA, knownA := impl.FewHas(fa, thing)
				hasB, knownB := impl.FewHas(fb, thing)
				if has && !hasA && !hasB {
					t.Errorf("%v and %v: %d is in neither, but in %v", fa, fb, thing, x)
				}
				if known && !has && (hasA || hasB || !knownA || !knownB) {
					t.Errorf("%v and %v: %d may be in one, but is known not to be in %v", fa, fb, thing, x)
				}
			}
		}
	}
}

func TestPromise20WhatIsKeptWasOrIsTheMark(t *testing.T) {
	for _, marks := range sampleMarks() {
		f := fewOf(marks...)
		for thing, mark := range fewMarks {
			x := addFew(t, f, thing)
			for _, kept := range x.Kept {
				if kept != mark && !slices.Contains(f.Kept, kept) {
					t.Errorf("%v and %d: %d was not kept", f, mark, kept)
				}
			}
			for _, was := range append(f.Kept, mark) {
				if !slices.Contains(x.Kept, was) && (len(x.Kept) < impl.FewKeep || was <= slices.Max(x.Kept)) {
					t.Errorf("%v and %d: %d is not in %v", f, mark, was, x)
				}
			}
		}
	}
}

func TestFewKeepIsThatOfTheTable(t *testing.T) {
	if impl.FewKeep != 6 {
		t.Error(impl.FewKeep)
	}
}
