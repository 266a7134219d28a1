package tests

import (
	"math/rand/v2"
	"reflect"
	"slices"
	"strconv"
	"testing"

	"loop.example/inkling/impl"
)

// often is a thing so many times.
func often(thing int, num int) []int {
	return slices.Repeat([]int{thing}, num)
}

// inTurn are so many things, each by as much further than the one ahead.
func inTurn(num int, step int) []int {
	list := []int{}
	for i := range num {
		list = append(list, i*step%impl.Things)
	}
	return list
}

// timesIn is how often each thing stands in a list.
func timesIn(list []int) times {
	c := times{}
	for _, thing := range list {
		c[thing]++
	}
	return c
}

// upToIn is how many in a list are not above a thing.
func upToIn(list []int, thing int) int {
	num := 0
	for _, other := range list {
		if other <= thing {
			num++
		}
	}
	return num
}

// edgeLists has the edges: no thing, one thing, one thing often, the things 0 and 63; TopKeep, FewKeep, and RankParts different ones, one less, and one more; CountMax of them, and one less.
func edgeLists() [][]int {
	return [][]int{
		{},
		{0},
		{63},
		{31},
		{0, 63},
		{63, 0, 63},
		{3, 5, 5},
		often(17, 7),
		often(17, 8),
		often(63, 100),
		{60, 61, 62, 63},
		inTurn(3, 5),
		inTurn(4, 1),
		inTurn(5, 1),
		inTurn(5, 13),
		inTurn(6, 1),
		inTurn(6, 11),
		inTurn(7, 1),
		inTurn(7, 9),
		inTurn(8, 1),
		inTurn(8, 9),
		inTurn(9, 62),
		{0, 1, 2, 63, 62, 61, 0},
		{0, 1, 2, 63, 62, 61, 0, 1},
		{10, 20, 30, 40, 50, 50, 40, 30, 20, 10, 50},
		inTurn(64, 1),
		inTurn(64, 63),
		inTurn(192, 7),
		slices.Concat(often(9, 13), inTurn(64, 1), often(40, 20)),
		slices.Concat(inTurn(64, 5), often(62, 30)),
		slices.Concat(often(0, 21), often(1, 20), often(2, 20), often(3, 20), often(4, 20)),
		slices.Concat(often(8, 25), often(16, 25), often(24, 25), often(32, 25)),
		often(5, impl.CountMax-1),
		often(63, impl.CountMax),
		inTurn(impl.CountMax, 7),
		slices.Concat(often(0, 1000), often(63, 1000)),
		slices.Concat(inTurn(1599, 1), often(20, 401)),
	}
}

// sampleLists has the edges, and many others, always the same: short and long, of few things and of many, of all as often and of some more often.
func sampleLists() [][]int {
	lists := edgeLists()
	random := rand.New(rand.NewPCG(9, 10))
	for i := range 28 {
		list := []int{}
		spread := 1 + random.IntN(impl.Things)
		for range 1 + random.IntN(1+i*i/2) {
			thing := random.IntN(impl.Things)
			if i%3 > 0 {
				thing = random.IntN(1 + random.IntN(spread))
			}
			list = append(list, thing*(1+i%4*2)%impl.Things)
		}
		lists = append(lists, list)
	}
	return lists
}

// countedApart has counted a list in all four ways, each for itself.
func countedApart(t *testing.T, list []int) impl.Sum {
	t.Helper()
	rough := impl.RoughNew()
	for _, thing := range list {
		rough = add(t, rough, thing, 1)
	}
	return impl.Sum{
		Rough: rough,
		Few:   addFew(t, impl.Few{}, list...),
		Top:   addTop(t, impl.Top{}, list...),
		Rank:  addRank(t, impl.Rank{}, list...),
	}
}

// joinedApart has joined two in all four ways, each for itself.
func joinedApart(t *testing.T, a impl.Sum, b impl.Sum) impl.Sum {
	t.Helper()
	rough, ok := impl.RoughJoin(a.Rough, b.Rough)
	if !ok {
		t.Fatalf("RoughJoin(%v, %v) is refused", a.Rough, b.Rough)
	}
	return impl.Sum{
		Rough: rough,
		Few:   joinFew(t, a.Few, b.Few),
		Top:   joinTop(t, a.Top, b.Top),
		Rank:  joinRank(t, a.Rank, b.Rank),
	}
}

// noSum is, without the program, one of nothing.
func noSum() impl.Sum {
	return impl.Sum{Rough: roughOf(times{})}
}

// addedSum is, without the program, what SumAdd has to answer, where it can be.
func addedSum(s impl.Sum, thing int) impl.Sum {
	return impl.Sum{
		Rough: roughsTogether(s.Rough, roughOf(times{thing: 1})),
		Few:   fewOf(append(slices.Clone(s.Few.Kept), fewMarks[thing])...),
		Top:   addedTop(s.Top, thing),
		Rank:  addedRank(s.Rank, thing),
	}
}

// joinedSum is, without the program, what SumJoin has to answer, where it can be.
func joinedSum(a impl.Sum, b impl.Sum) impl.Sum {
	return impl.Sum{
		Rough: roughsTogether(a.Rough, b.Rough),
		Few:   fewOf(slices.Concat(a.Few.Kept, b.Few.Kept)...),
		Top:   joinedTop(a.Top, b.Top),
		Rank:  joinedRank(a.Rank, b.Rank),
	}
}

func roughsTogether(a impl.Rough, b impl.Rough) impl.Rough {
	r := roughOf(times{})
	for row := range r.Rows {
		for place := range r.Rows[row] {
			r.Rows[row][place] = a.Rows[row][place] + b.Rows[row][place]
		}
	}
	return r
}

// toldOf is, without the program, what SumGet has to answer.
func toldOf(s impl.Sum, thing int) (int, int) {
	least := numsOf(s.Top)[thing]
	most := min(least+s.Top.Lost, leastOf(s.Rough, thing))
	kept := s.Few.Kept
	switch {
	case slices.Contains(kept, fewMarks[thing]):
		return max(least, 1), most
	case len(kept) < 6 || fewMarks[thing] < kept[5]:
		return 0, 0
	}
	return least, most
}

// sumWith is ok, and of so much, all of one thing.
func sumWith(all int) impl.Sum {
	if all == 0 {
		return noSum()
	}
	return impl.Sum{
		Rough: roughOf(times{5: all}),
		Few:   fewOf(fewMarks[5]),
		Top:   topOf(0, all, 5, all),
		Rank:  rankOf(all, 69, all),
	}
}

// mixedSums are ok, but most were never counted so: what is in one of the four has nothing to do with what is in the others, but for how much it is.
func mixedSums() []impl.Sum {
	var sums []impl.Sum
	some := sampleMarks()[1:]
	for i, top := range sampleTops() {
		s := sumWith(top.All)
		s.Top = top
		if top.All > 0 {
			s.Few = fewOf(some[i%len(some)]...)
			s.Rough = roughsTogether(roughOf(times{i % 64: top.All / 2}), roughOf(times{i * 5 % 64: top.All - top.All/2}))
		}
		sums = append(sums, s)
	}
	for i, rank := range sampleRanks() {
		s := sumWith(rank.All)
		s.Rank = rank
		if rank.All > 0 {
			s.Few = fewOf(some[i*3%len(some)]...)
		}
		sums = append(sums, s)
	}
	return sums
}

// sampleSums are those of all lists, and those that are mixed.
func sampleSums(t *testing.T) []impl.Sum {
	t.Helper()
	sums := mixedSums()
	for _, list := range sampleLists() {
		sums = append(sums, sumOf(t, list))
	}
	return sums
}

// brokenSums are all not ok, each for one reason alone where that is possible.
func brokenSums() map[string]impl.Sum {
	list := map[string]impl.Sum{
		"nothing":                             {},
		"marks, and nothing was counted":      withFew(sumWith(0), fewOf(0)),
		"all marks, and nothing was counted":  withFew(sumWith(0), fewOf(marksTo(0, 5)...)),
		"no marks, and one was counted":       withFew(sumWith(1), impl.Few{}),
		"no marks, and 8 were counted":        withFew(sumWith(8), impl.Few{Kept: []int{}}),
		"no marks, and CountMax were counted": withFew(sumWith(impl.CountMax), impl.Few{}),
	}
	for _, all := range []int{0, 1, 7, 8, 1000, 1999, impl.CountMax} {
		for _, other := range []int{0, 1, all - 1, all + 1, impl.CountMax} {
			if other == all || other < 0 || other > impl.CountMax {
				continue
			}
			few := fewOf(marksTo(0, min(all, 1)-1)...)
			name := ofAll(all) + ", one" + ofAll(other)
			list["Rough alone"+name] = withFew(impl.Sum{Rough: sumWith(all).Rough, Top: sumWith(other).Top, Rank: sumWith(other).Rank}, few)
			list["Top not, all"+name] = withFew(impl.Sum{Rough: sumWith(all).Rough, Top: sumWith(other).Top, Rank: sumWith(all).Rank}, few)
			list["Rank not, all"+name] = withFew(impl.Sum{Rough: sumWith(all).Rough, Top: sumWith(all).Top, Rank: sumWith(other).Rank}, few)
		}
	}
	for name, rough := range brokenRoughs() {
		for _, all := range []int{0, 5, impl.CountMax} {
			s := sumWith(all)
			s.Rough = rough
			list["Rough: "+name+ofAll(all)] = s
		}
	}
	for name, few := range brokenFews() {
		list["Few: "+name] = withFew(sumWith(8), few)
		list["Few, of nothing: "+name] = withFew(sumWith(0), few)
	}
	for name, top := range brokenTops() {
		s := sumWith(min(max(top.All, 0), impl.CountMax))
		s.Top = top
		list["Top: "+name] = s
	}
	for name, rank := range brokenRanks() {
		s := sumWith(min(max(rank.All, 0), impl.CountMax))
		s.Rank = rank
		list["Rank: "+name] = s
	}
	return list
}

func ofAll(all int) string {
	return " of " + strconv.Itoa(all)
}

func withFew(s impl.Sum, few impl.Few) impl.Sum {
	s.Few = few
	return s
}

// mustBeSum fails unless a call answered just so, and true.
func mustBeSum(t *testing.T, what string, got impl.Sum, ok bool, want impl.Sum) {
	t.Helper()
	mustBe(t, what, got.Rough, ok, want.Rough)
	mustBeFew(t, what, got.Few, ok, want.Few)
	mustBeTop(t, what, got.Top, ok, want.Top)
	mustBeRank(t, what, got.Rank, ok, want.Rank)
}

// mustRefuseSum fails unless a call answered nothing and false.
func mustRefuseSum(t *testing.T, what string, got impl.Sum, ok bool) {
	t.Helper()
	mustRefuse(t, what, got.Rough, ok)
	mustRefuseFew(t, what, got.Few, ok)
	mustRefuseTop(t, what, got.Top, ok)
	mustRefuseRank(t, what, got.Rank, ok)
}

// mustBeAsIf fails unless Rough and Few are the same in both.
func mustBeAsIf(t *testing.T, what string, got impl.Sum, want impl.Sum) {
	t.Helper()
	if !reflect.DeepEqual(got.Rough, want.Rough) || !slices.Equal(got.Few.Kept, want.Few.Kept) {
		t.Fatalf("%s: %v %v, not %v %v", what, got.Rough, got.Few, want.Rough, want.Few)
	}
}

// sumOf counts a list where that is known to be possible.
func sumOf(t *testing.T, list []int) impl.Sum {
	t.Helper()
	s, ok := impl.SumOf(list)
	if !ok {
		t.Fatalf("SumOf(%v) is refused", list)
	}
	return s
}

// addSum counts where that is known to be possible.
func addSum(t *testing.T, s impl.Sum, things ...int) impl.Sum {
	t.Helper()
	for _, thing := range things {
		x, ok := impl.SumAdd(s, thing)
		if !ok {
			t.Fatalf("SumAdd(%v, %d) is refused", s, thing)
		}
		s = x
	}
	return s
}

// joinSum joins where that is known to be possible.
func joinSum(t *testing.T, a impl.Sum, b impl.Sum) impl.Sum {
	t.Helper()
	x, ok := impl.SumJoin(a, b)
	if !ok {
		t.Fatalf("SumJoin(%v, %v) is refused", a, b)
	}
	return x
}

// inPieces cuts a list into pieces and joins what is counted of each, any two of them till there is one; join joins two.
func inPieces(t *testing.T, list []int, random *rand.Rand, join func(a impl.Sum, b impl.Sum) impl.Sum) impl.Sum {
	t.Helper()
	pieces := []impl.Sum{noSum()}
	for len(list) > 0 {
		cut := 1 + random.IntN(min(len(list), 25))
		pieces = append(pieces, countedApart(t, list[:cut]))
		list = list[cut:]
	}
	for len(pieces) > 1 {
		random.Shuffle(len(pieces), func(i int, j int) { pieces[i], pieces[j] = pieces[j], pieces[i] })
		pieces = append(pieces[2:], join(pieces[0], pieces[1]))
	}
	return pieces[0]
}
