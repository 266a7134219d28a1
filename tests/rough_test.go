package tests

import (
	"math"
	"reflect"
	"testing"

	"loop.example/inkling/impl"
)

func TestPromise1EachThingHasAPlaceInEachRow(t *testing.T) {
	for row := range impl.RoughRows {
		for thing := range impl.Things {
			place := impl.RoughPlace(row, thing)
			if place < 0 || place >= impl.RoughCols || place != placeOf(row, thing) {
				t.Errorf("RoughPlace(%d, %d) = %d, not %d", row, thing, place, placeOf(row, thing))
			}
		}
	}
}

func TestPromise1NoSuchRowOrThingHasNoPlace(t *testing.T) {
	noRows := []int{-1, impl.RoughRows, 4, 63, math.MinInt, math.MaxInt}
	for _, row := range noRows {
		for _, thing := range append(noThings(), 0, 1, 63) {
			if place := impl.RoughPlace(row, thing); place != -1 {
				t.Errorf("RoughPlace(%d, %d) = %d, not -1", row, thing, place)
			}
		}
	}
	for row := range impl.RoughRows {
		for _, thing := range noThings() {
			if place := impl.RoughPlace(row, thing); place != -1 {
				t.Errorf("RoughPlace(%d, %d) = %d, not -1", row, thing, place)
			}
		}
	}
}

func TestPromise2AddCountsInOnePlaceOfEachRow(t *testing.T) {
	for _, c := range sampleTimes() {
		for _, num := range []int{0, 1, 2, 7, impl.CountMax - c.all()} {
			if num > impl.CountMax-c.all() {
				continue
			}
			for thing := range impl.Things {
				want := roughOf(c)
				for row := range want.Rows {
					want.Rows[row][placeOf(row, thing)] += num
				}
				got, ok := impl.RoughAdd(roughOf(c), thing, num)
				mustBe(t, "RoughAdd", got, ok, want)
			}
		}
	}
}

func TestPromise2AddMeetsCountMaxExactly(t *testing.T) {
	for _, c := range sampleTimes() {
		left := impl.CountMax - c.all()
		for _, thing := range []int{0, 5, 8, 63} {
			full := add(t, roughOf(c), thing, left)
			if impl.RoughAll(full) != impl.CountMax {
				t.Errorf("%v and %d times %d: all is %d", c, left, thing, impl.RoughAll(full))
			}
			mustBe(t, "0 times more", add(t, full, thing, 0), true, full)
			got, ok := impl.RoughAdd(full, thing, 1)
			mustRefuse(t, "one more than CountMax, counted then", got, ok)
			got, ok = impl.RoughAdd(roughOf(c), thing, left+1)
			mustRefuse(t, "one more than CountMax, counted at once", got, ok)
		}
	}
}

func TestPromise2AddRefusesTimesAndThings(t *testing.T) {
	for _, c := range sampleTimes() {
		for thing := range impl.Things {
			for _, num := range []int{-1, -2, -impl.CountMax, math.MinInt, math.MinInt + 1, impl.CountMax + 1, math.MaxInt, math.MaxInt - 1} {
				got, ok := impl.RoughAdd(roughOf(c), thing, num)
				mustRefuse(t, "RoughAdd of bad times", got, ok)
			}
		}
		for _, thing := range noThings() {
			for _, num := range []int{-1, 0, 1} {
				got, ok := impl.RoughAdd(roughOf(c), thing, num)
				mustRefuse(t, "RoughAdd of no thing", got, ok)
			}
		}
	}
}

func TestPromise3TwoThingsMayBeCountedInEitherOrder(t *testing.T) {
	base := roughOf(times{3: 4, 40: 1990})
	for a := range impl.Things {
		for _, b := range []int{0, 1, 8, 31, 32, 63} {
			want := with(roughOf(times{3: 4, 40: 1990}), func(r impl.Rough) {
				for row := range r.Rows {
					r.Rows[row][placeOf(row, a)] += 2
					r.Rows[row][placeOf(row, b)] += 4
				}
			})
			mustBe(t, "a, then b", add(t, add(t, base, a, 2), b, 4), true, want)
			mustBe(t, "b, then a", add(t, add(t, base, b, 4), a, 2), true, want)
			got, ok := impl.RoughAdd(add(t, base, a, 2), b, 5)
			mustRefuse(t, "a, then b, too much", got, ok)
			got, ok = impl.RoughAdd(add(t, base, b, 5), a, 2)
			mustRefuse(t, "b, then a, too much", got, ok)
		}
	}
}

func TestPromise4CountedSomeTimesAndThenTheOthers(t *testing.T) {
	for _, c := range sampleTimes() {
		left := impl.CountMax - c.all()
		for _, num := range []int{0, 1, 5, left} {
			if num > left {
				continue
			}
			for _, first := range []int{0, 1, num / 2, num} {
				first = min(first, num)
				for _, thing := range []int{0, 8, 33, 63} {
					atOnce := add(t, roughOf(c), thing, num)
					inTwo := add(t, add(t, roughOf(c), thing, first), thing, num-first)
					mustBe(t, "in two", inTwo, true, atOnce)
				}
			}
		}
	}
	oneByOne := impl.RoughNew()
	for range impl.CountMax {
		oneByOne = add(t, oneByOne, 21, 1)
	}
	mustBe(t, "one by one", oneByOne, true, roughOf(times{21: impl.CountMax}))
}

func TestPromise5GetIsTheLeastPlace(t *testing.T) {
	for _, c := range sampleTimes() {
		r := roughOf(c)
		for thing := range impl.Things {
			got := impl.RoughGet(r, thing)
			if got != leastOf(r, thing) || got > impl.RoughAll(r) || got < c[thing] {
				t.Errorf("RoughGet(%v, %d) = %d, not %d", r, thing, got, leastOf(r, thing))
			}
		}
	}
}

// The least place stands in each of the rows once, so that none can be left out.
func TestPromise5EachRowMayHaveTheLeastPlace(t *testing.T) {
	for thing := range impl.Things {
		for least := range impl.RoughRows {
			r := impl.RoughNew()
			for row := range r.Rows {
				place := placeOf(row, thing)
				r.Rows[row][place], r.Rows[row][(place+1)%impl.RoughCols] = 9, 1
				if row == least {
					r.Rows[row][place], r.Rows[row][(place+1)%impl.RoughCols] = 4, 6
				}
			}
			if got := impl.RoughGet(r, thing); got != 4 {
				t.Errorf("RoughGet(%v, %d) = %d, not 4", r, thing, got)
			}
		}
	}
}

func TestPromise5GetOfNoThing(t *testing.T) {
	for _, c := range sampleTimes() {
		for _, thing := range noThings() {
			if got := impl.RoughGet(roughOf(c), thing); got != -1 {
				t.Errorf("RoughGet(%v, %d) = %d, not -1", c, thing, got)
			}
		}
	}
}

func TestPromise6EachRowHasAllTogether(t *testing.T) {
	for _, c := range sampleTimes() {
		r := impl.RoughNew()
		for thing, num := range c {
			r = add(t, r, thing, num)
		}
		mustBe(t, "counted", r, true, roughOf(c))
		if !impl.RoughOk(r) || impl.RoughAll(r) != c.all() {
			t.Errorf("%v: ok is %v, all is %d, not %d", r, impl.RoughOk(r), impl.RoughAll(r), c.all())
		}
		for _, row := range r.Rows {
			together := 0
			for _, num := range row {
				together += num
			}
			if together != impl.RoughAll(r) {
				t.Errorf("%v has %d together, not %d", row, together, impl.RoughAll(r))
			}
		}
	}
}

func TestPromise6NewHasNothing(t *testing.T) {
	mustBe(t, "RoughNew", impl.RoughNew(), true, roughOf(times{}))
	if !impl.RoughOk(impl.RoughNew()) || impl.RoughAll(impl.RoughNew()) != 0 {
		t.Error("RoughNew is not ok, or has something")
	}
}

func TestPromise6OkTakesAnyRowsWithAsMuchTogether(t *testing.T) {
	for name, r := range map[string]impl.Rough{
		"CountMax in one place": rowsOf(0, 0, 0, 0, 0, 0, 0, impl.CountMax),
		"CountMax in all":       rowsOf(250, 250, 250, 250, 250, 250, 250, 250),
		"rows that differ":      {Rows: [][]int{{1, 2, 3, 0, 0, 0, 0, 0}, {6, 0, 0, 0, 0, 0, 0, 0}, {0, 0, 0, 0, 0, 0, 5, 1}}},
	} {
		want := 6
		if name != "rows that differ" {
			want = impl.CountMax
		}
		if !impl.RoughOk(r) || impl.RoughAll(r) != want {
			t.Errorf("%s: %v %d", name, impl.RoughOk(r), impl.RoughAll(r))
		}
	}
}

func TestPromise6BrokenOnesAreToldAtEveryFunction(t *testing.T) {
	for name, r := range brokenRoughs() {
		if impl.RoughOk(r) {
			t.Errorf("%s: ok", name)
		}
		if all := impl.RoughAll(r); all != -1 {
			t.Errorf("%s: RoughAll is %d, not -1", name, all)
		}
		for _, thing := range append(noThings(), 0, 8, 63) {
			if get := impl.RoughGet(r, thing); get != -1 {
				t.Errorf("%s: RoughGet of %d is %d, not -1", name, thing, get)
			}
			for _, num := range []int{-1, 0, 1, math.MaxInt, math.MinInt} {
				got, ok := impl.RoughAdd(r, thing, num)
				mustRefuse(t, "RoughAdd, "+name, got, ok)
			}
		}
		for _, c := range sampleTimes() {
			got, ok := impl.RoughJoin(r, roughOf(c))
			mustRefuse(t, "RoughJoin behind, "+name, got, ok)
			got, ok = impl.RoughJoin(roughOf(c), r)
			mustRefuse(t, "RoughJoin ahead, "+name, got, ok)
		}
		for other, s := range brokenRoughs() {
			got, ok := impl.RoughJoin(r, s)
			mustRefuse(t, "RoughJoin, "+name+" and "+other, got, ok)
		}
	}
}

// both is what two have counted together.
func both(a times, b times) times {
	c := times{}
	for thing, num := range a {
		c[thing] += num
	}
	for thing, num := range b {
		c[thing] += num
	}
	return c
}

func TestPromise7JoinIsTheSameEitherWay(t *testing.T) {
	for _, a := range sampleTimes() {
		for _, b := range sampleTimes() {
			got, ok := impl.RoughJoin(roughOf(a), roughOf(b))
			back, backOk := impl.RoughJoin(roughOf(b), roughOf(a))
			if a.all()+b.all() > impl.CountMax {
				mustRefuse(t, "RoughJoin, too much", got, ok)
				mustRefuse(t, "RoughJoin back, too much", back, backOk)
				continue
			}
			mustBe(t, "RoughJoin", got, ok, roughOf(both(a, b)))
			mustBe(t, "RoughJoin back", back, backOk, roughOf(both(a, b)))
			if !impl.RoughOk(got) || impl.RoughAll(got) != a.all()+b.all() {
				t.Errorf("%v and %v have %d", a, b, impl.RoughAll(got))
			}
		}
	}
}

func TestPromise7JoinMeetsCountMaxExactly(t *testing.T) {
	for _, a := range []int{0, 1, 1000, 1999, impl.CountMax} {
		got, ok := impl.RoughJoin(roughOf(times{0: a}), roughOf(times{63: impl.CountMax - a}))
		mustBe(t, "just CountMax", got, ok, roughOf(times{0: a, 63: impl.CountMax - a}))
		if a > 0 {
			got, ok = impl.RoughJoin(roughOf(times{0: a}), roughOf(times{63: impl.CountMax - a + 1}))
			mustRefuse(t, "one more than CountMax", got, ok)
		}
	}
}

func TestPromise7JoinWithNewChangesNothing(t *testing.T) {
	for _, c := range sampleTimes() {
		got, ok := impl.RoughJoin(roughOf(c), impl.RoughNew())
		mustBe(t, "with RoughNew behind", got, ok, roughOf(c))
		got, ok = impl.RoughJoin(impl.RoughNew(), roughOf(c))
		mustBe(t, "with RoughNew ahead", got, ok, roughOf(c))
	}
}

func TestPromise8WhichTwoOfThreeAreJoinedFirst(t *testing.T) {
	join := func(a impl.Rough, aOk bool, b impl.Rough, bOk bool) (impl.Rough, bool) {
		if !aOk || !bOk {
			return impl.Rough{}, false
		}
		return impl.RoughJoin(a, b)
	}
	for _, a := range sampleTimes() {
		for _, b := range sampleTimes() {
			for _, c := range sampleTimes() {
				ab, abOk := impl.RoughJoin(roughOf(a), roughOf(b))
				bc, bcOk := impl.RoughJoin(roughOf(b), roughOf(c))
				x, xOk := join(ab, abOk, roughOf(c), true)
				y, yOk := join(roughOf(a), true, bc, bcOk)
				if a.all()+b.all()+c.all() > impl.CountMax {
					mustRefuse(t, "the first two first, too much", x, xOk)
					mustRefuse(t, "the last two first, too much", y, yOk)
					continue
				}
				mustBe(t, "the first two first", x, xOk, roughOf(both(both(a, b), c)))
				mustBe(t, "the last two first", y, yOk, x)
			}
		}
	}
}

func TestPromise9JoinedGetIsBetween(t *testing.T) {
	for _, ca := range sampleTimes() {
		for _, cb := range sampleTimes() {
			a, b := roughOf(ca), roughOf(cb)
			x, ok := impl.RoughJoin(a, b)
			if !ok {
				continue
			}
			for thing := range impl.Things {
				getA, getB, get := impl.RoughGet(a, thing), impl.RoughGet(b, thing), impl.RoughGet(x, thing)
				if get < getA+getB || get > getA+impl.RoughAll(b) || get > getB+impl.RoughAll(a) || get != leastOf(x, thing) {
					t.Errorf("%v and %v: RoughGet of %d is %d", a, b, thing, get)
				}
			}
		}
	}
}

// In one row both share a place, in the others not: the joined least is above both together.
func TestPromise9JoinedGetMayBeMoreThanBoth(t *testing.T) {
	a := impl.Rough{Rows: [][]int{{5, 0, 0, 0, 0, 0, 0, 0}, {5, 0, 0, 0, 0, 0, 0, 0}, {5, 0, 0, 0, 0, 0, 0, 0}}}
	b := impl.Rough{Rows: [][]int{{5, 0, 0, 0, 0, 0, 0, 0}, {0, 5, 0, 0, 0, 0, 0, 0}, {0, 0, 5, 0, 0, 0, 0, 0}}}
	x, ok := impl.RoughJoin(a, b)
	mustBe(t, "RoughJoin", x, ok, impl.Rough{Rows: [][]int{{10, 0, 0, 0, 0, 0, 0, 0}, {5, 5, 0, 0, 0, 0, 0, 0}, {5, 0, 5, 0, 0, 0, 0, 0}}})
	if impl.RoughGet(a, 0) != 0 || impl.RoughGet(b, 0) != 5 || impl.RoughGet(x, 0) != 5 {
		t.Error(impl.RoughGet(a, 0), impl.RoughGet(b, 0), impl.RoughGet(x, 0))
	}
}

func TestPromise10NewHasNothingOfAThing(t *testing.T) {
	for thing := range impl.Things {
		if get := impl.RoughGet(impl.RoughNew(), thing); get != 0 {
			t.Errorf("RoughNew has %d of %d", get, thing)
		}
	}
}

func TestPromise10NewHasJustWhatIsCountedThen(t *testing.T) {
	for thing := range impl.Things {
		for _, num := range []int{0, 1, 2, 999, impl.CountMax - 1, impl.CountMax} {
			r := add(t, impl.RoughNew(), thing, num)
			mustBe(t, "counted from RoughNew on", r, true, roughOf(times{thing: num}))
			if get := impl.RoughGet(r, thing); get != num {
				t.Errorf("%d times %d: RoughGet is %d", num, thing, get)
			}
		}
		for _, num := range []int{-1, impl.CountMax + 1, math.MinInt, math.MaxInt} {
			got, ok := impl.RoughAdd(impl.RoughNew(), thing, num)
			mustRefuse(t, "bad times from RoughNew on", got, ok)
		}
	}
}

func TestLimitsAreThoseOfTheTable(t *testing.T) {
	got := []int{impl.Things, impl.CountMax, impl.RoughRows, impl.RoughCols}
	if !reflect.DeepEqual(got, []int{64, 2000, 3, 8}) {
		t.Error(got)
	}
}
