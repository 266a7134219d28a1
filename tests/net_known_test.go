package tests

import (
	"math"
	"math/rand/v2"
	"slices"
	"testing"

	"loop.example/inkling/impl"
)

// heavyNets have as much as there can be: five nodes with 100 things each, told to all, and told to none.
func heavyNets(t *testing.T) map[string]impl.Net {
	t.Helper()
	var deeds []impl.Deed
	for node := range 5 {
		deeds = append(deeds, countsOf(node, inTurn(100, 2*node+1))...)
	}
	alone := runNet(t, newNet(t, chain), deeds...)
	few := newNet(t, allLinked)
	for node := range 5 {
		few = runNet(t, few, countsOf(node, slices.Concat(often(node, 60), inTurn(40, 1)))...)
	}
	return map[string]impl.Net{
		"each alone":       alone,
		"all know all":     fullNet(t),
		"a chain, rested":  restNet(t, alone),
		"few things, told": restNet(t, few),
	}
}

// eachKnower calls for each node of each net, with all things that it knows of.
func eachKnower(t *testing.T, check func(name string, n impl.Net, node int, things []int)) {
	t.Helper()
	each := func(name string, n impl.Net) {
		for node, x := range n.Nodes {
			things := []int{}
			for _, e := range x.Known {
				things = append(things, n.Past[e.Node][e.Born][:e.Num]...)
			}
			check(name, n, node, things)
		}
	}
	eachNet(t, each)
	for name, n := range heavyNets(t) {
		each(name, n)
	}
}

func TestPromise86KnownIsByNodesAndHasTheNodeItselfWithAllThatItCounted(t *testing.T) {
	eachKnower(t, func(name string, n impl.Net, node int, _ []int) {
		known := impl.NetKnown(n, node)
		mustBeAlike(t, name, known, n.Nodes[node].Known)
		own, has := entryIn(known, node)
		if !has || !areTrue(n, known) {
			t.Fatalf("%s: %d knows %+v", name, node, known)
		}
		mustBeAlike(t, name+", itself", own, entryOf(n, node, n.Nodes[node].Born, len(countedNow(n, node))))
	})
}

func TestPromise86WhatIsNoNodeKnowsNothing(t *testing.T) {
	for _, n := range []impl.Net{newNet(t, chain), richNet(t)} {
		for _, node := range []int{-1, 5, 6, math.MinInt, math.MaxInt} {
			if known := impl.NetKnown(n, node); len(known) != 0 {
				t.Errorf("%d knows %v", node, known)
			}
			s, ok := impl.NetSum(n, node)
			mustRefuseSum(t, "no node", s, ok)
		}
	}
}

func TestPromise87SumHasRoughAndFewAsOfAllThingsThatAreKnown(t *testing.T) {
	eachKnower(t, func(name string, n impl.Net, node int, things []int) {
		s, ok := impl.NetSum(n, node)
		want := noSum()
		for _, e := range n.Nodes[node].Known {
			want = joinedSum(want, e.Sum)
		}
		mustBeSum(t, name, s, ok, want)
		mustBeAsIf(t, name, s, truthOf(things))
		if !impl.SumOk(s) || impl.SumAll(s) != len(things) {
			t.Errorf("%s: the sum of %d is of %d, not %d", name, node, impl.SumAll(s), len(things))
		}
	})
}

func TestPromise87SumOfOneAndOfAllFive(t *testing.T) {
	nets := heavyNets(t)
	for node := range 5 {
		if s, ok := impl.NetSum(nets["each alone"], node); !ok || impl.SumAll(s) != 100 {
			t.Errorf("one node alone knows of %d", impl.SumAll(s))
		}
		if s, ok := impl.NetSum(nets["all know all"], node); node == 0 && (!ok || impl.SumAll(s) != 500) {
			t.Errorf("of all five the root knows of %d", impl.SumAll(s))
		}
	}
	s, ok := impl.NetSum(newNet(t, nil), 3)
	mustBeSum(t, "nothing was counted", s, ok, noSum())
}

// The nodes are joined in their order: joined in another one, what is kept of the most, and of how many are up to each, may be another.
func TestPromise87SumIsJoinedFromNewOnInOrder(t *testing.T) {
	differ := 0
	eachKnower(t, func(name string, n impl.Net, node int, _ []int) {
		var back []impl.Entry
		for _, e := range n.Nodes[node].Known {
			back = slices.Insert(back, 0, e)
		}
		other := noSum()
		for _, e := range back {
			other = joinedSum(other, e.Sum)
		}
		if s, _ := impl.NetSum(n, node); !isAlike(s, other) {
			differ++
		}
	})
	if differ == 0 {
		t.Error("it never matters in which order they are joined")
	}
}

func TestPromise88EachWasCountedAsOftenAsSumTells(t *testing.T) {
	eachKnower(t, func(name string, n impl.Net, node int, things []int) {
		s, _ := impl.NetSum(n, node)
		c := timesIn(things)
		for thing := range impl.Things {
			least, most := impl.SumGet(s, thing)
			mustBeBetween(t, name, thing, c[thing], least, most)
		}
	})
}

func TestPromise89WhatSumTellsIsAtMostSixPartsApartAndLostAtMostAFifth(t *testing.T) {
	eachKnower(t, func(name string, n impl.Net, node int, things []int) {
		s, _ := impl.NetSum(n, node)
		for thing := range impl.Things {
			least, most := impl.RankBelow(s.Rank, thing)
			mustBeBetween(t, name, thing, upToIn(things, thing), least, most)
			if most-least > 6*(len(things)/8) {
				t.Errorf("%s: up to %d %d to %d are told, of %d", name, thing, least, most, len(things))
			}
		}
		if 5*s.Top.Lost > len(things) {
			t.Errorf("%s: %d are lost, of %d", name, s.Top.Lost, len(things))
		}
	})
}

func TestPromise90ListIsThatOfEachEntryOneBehindTheOther(t *testing.T) {
	eachKnower(t, func(name string, n impl.Net, node int, things []int) {
		known := impl.NetKnown(n, node)
		if list := impl.NetList(n, known); !slices.Equal(list, things) {
			t.Errorf("%s: NetList is %v, not %v", name, list, things)
		}
		var each []int
		for _, e := range known {
			each = append(each, impl.NetList(n, []impl.Entry{e})...)
		}
		if !slices.Equal(each, things) {
			t.Errorf("%s: NetList of each is %v, not %v", name, each, things)
		}
	})
}

func TestPromise90ListOfAnyEntriesInAnyOrder(t *testing.T) {
	random := rand.New(rand.NewPCG(32, 33))
	nets := []impl.Net{richNet(t), bornNet(t), sampleNet(t, "all, walked")}
	for i := range 300 {
		n := nets[i%len(nets)]
		var list []impl.Entry
		var want []int
		for range random.IntN(12) {
			e := impl.Entry{Node: random.IntN(7) - 1, Born: random.IntN(5), Num: random.IntN(8) - 1}
			if random.IntN(2) == 0 {
				e.Sum = sumWith(7)
			}
			list = append(list, e)
			if e.Node < 0 || e.Node > 4 || e.Born < 1 || e.Born > n.Nodes[e.Node].Born || e.Num < 0 || e.Num > len(n.Past[e.Node][e.Born]) {
				continue
			}
			want = append(want, n.Past[e.Node][e.Born][:e.Num]...)
		}
		if got := impl.NetList(n, list); !slices.Equal(got, want) {
			t.Errorf("NetList of %+v is %v, not %v", list, got, want)
		}
	}
}

func TestPromise90EntriesThatHaveNoNodeBornOrNumAreLeftOut(t *testing.T) {
	n := richNet(t)
	good := impl.Entry{Node: 2, Born: 1, Num: 3}
	for name, bad := range map[string]impl.Entry{
		"nothing":              {},
		"no node":              {Node: 5, Born: 1},
		"a node below all":     {Node: -1, Born: 1},
		"a node far above":     {Node: math.MaxInt, Born: 1},
		"Born 0":               {Node: 2},
		"Born -1":              {Node: 2, Born: -1},
		"a Born not yet":       {Node: 2, Born: 3},
		"a Born far above":     {Node: 2, Born: math.MaxInt},
		"a Num below 0":        {Node: 2, Born: 1, Num: -1},
		"a Num far below":      {Node: 2, Born: 1, Num: math.MinInt},
		"one more than all":    {Node: 2, Born: 1, Num: 10},
		"a Num far above":      {Node: 2, Born: 1, Num: math.MaxInt},
		"more than it has now": {Node: 2, Born: 2, Num: 3},
	} {
		if list := impl.NetList(n, []impl.Entry{good, bad, good}); !slices.Equal(list, []int{0, 7, 14, 0, 7, 14}) {
			t.Errorf("%s: NetList is %v", name, list)
		}
		if list := impl.NetList(n, []impl.Entry{bad}); len(list) != 0 {
			t.Errorf("%s, alone: NetList is %v", name, list)
		}
	}
	for num := range 10 {
		if list := impl.NetList(n, []impl.Entry{{Node: 2, Born: 1, Num: num}}); !slices.Equal(list, inTurn(num, 7)) {
			t.Errorf("the first %d are %v", num, list)
		}
	}
	if list := impl.NetList(n, nil); len(list) != 0 {
		t.Errorf("NetList of nothing is %v", list)
	}
	if list := impl.NetList(fullNet(t), slices.Repeat([]impl.Entry{{Node: 4, Born: 1, Num: 100}}, 40)); len(list) != 4000 {
		t.Errorf("there are %d", len(list))
	}
}
