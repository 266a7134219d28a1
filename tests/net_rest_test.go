package tests

import (
	"math/rand/v2"
	"slices"
	"testing"

	"loop.example/inkling/impl"
)

// eachRested calls for each net of the sample that may rest, and for others that are walked at random, with what is behind NetRest.
func eachRested(t *testing.T, check func(name string, before impl.Net, after impl.Net)) {
	t.Helper()
	eachNet(t, func(name string, n impl.Net) {
		if n.Nodes[0].Beacon < 1000 {
			check(name, n, restNet(t, n))
		}
	})
	random := rand.New(rand.NewPCG(28, 29))
	for range 40 {
		n := newNet(t, nil)
		for one := range 5 {
			for other := range one {
				if random.IntN(5) < 2 {
					n = doNet(t, n, deedOf(impl.DeedMend, one, other))
				}
			}
		}
		n = runNet(t, n, someDeeds(random, random.IntN(200), 6)...)
		check("walked", n, restNet(t, n))
	}
}

func TestPromise78BehindRestTheRootKnowsOfAllInReachWhatTheyKnowOfThemselves(t *testing.T) {
	eachRested(t, func(name string, before impl.Net, after impl.Net) {
		mustBeNet(t, name, after, true, restedNet(before))
		for _, node := range reachOf(before.Links) {
			own, has := entryIn(after.Nodes[node].Known, node)
			known, _ := entryIn(after.Nodes[0].Known, node)
			if !has {
				t.Fatalf("%s: %d does not know itself", name, node)
			}
			mustBeAlike(t, name, known, own)
			mustBeAlike(t, name+", all that it counted", own, entryOf(after, node, after.Nodes[node].Born, len(countedNow(after, node))))
		}
		mustBeAlike(t, name+", what was counted", after.Past, before.Past)
		mustBeAlike(t, name+", links", after.Links, before.Links)
		if len(after.Words) != 0 || after.Nodes[0].Beacon != before.Nodes[0].Beacon+1 {
			t.Errorf("%s: there are %d words, and the Beacon %d", name, len(after.Words), after.Nodes[0].Beacon)
		}
		for node := range 5 {
			if after.Nodes[node].Born != before.Nodes[node].Born {
				t.Errorf("%s: %d is born anew", name, node)
			}
		}
	})
}

func TestPromise78RestWithTheRootsBeaconAt999And1000(t *testing.T) {
	for _, links := range [][]int{nil, chain, allLinked, linkSets()["cut in two"]} {
		n := runNet(t, beaconNet(t, links, 999), slices.Concat(countsOf(3, []int{6}), oftenDone(20, deedOf(impl.DeedHello, 0, 0)))...)
		x := restNet(t, n)
		mustBeNet(t, "at 999", x, true, restedNet(n))
		if x.Nodes[0].Beacon != 1000 {
			t.Errorf("the root's Beacon is %d", x.Nodes[0].Beacon)
		}
		for _, y := range []impl.Net{x, doNet(t, x, deedOf(impl.DeedCrash, 0, 0)), runNet(t, x, deedOf(impl.DeedHello, 0, 0))} {
			got, ok := impl.NetRest(y)
			mustRefuseNet(t, "at 1000", got, ok)
		}
	}
}

func TestPromise78RestOfANetThatIsCutInTwo(t *testing.T) {
	n := restNet(t, runNet(t, newNet(t, chain), slices.Concat(countsOf(1, []int{1}), countsOf(3, []int{3}))...))
	n = doNet(t, n, deedOf(impl.DeedCount, 1, 11), deedOf(impl.DeedCount, 3, 13), deedOf(impl.DeedCut, 1, 2), deedOf(impl.DeedTell, 3, 0))
	n = restNet(t, n)
	one, _ := entryIn(n.Nodes[0].Known, 1)
	three, _ := entryIn(n.Nodes[0].Known, 3)
	if one.Num != 2 || three.Num != 1 {
		t.Errorf("the root knows of 1 %d things, of 3 %d", one.Num, three.Num)
	}
	if x := n.Nodes[2]; x.Beacon != 1 || x.Level != 2 || x.Up != 1 {
		t.Errorf("who is not in reach is %+v", x)
	}
	if x := n.Nodes[1]; x.Beacon != 2 || x.Level != 1 || x.Up != 0 {
		t.Errorf("who is in reach is %+v", x)
	}
	n = restNet(t, doNet(t, n, deedOf(impl.DeedMend, 1, 2)))
	if three, _ = entryIn(n.Nodes[0].Known, 3); three.Num != 2 {
		t.Errorf("the root knows of 3 %d things, when the link is mended", three.Num)
	}
}

func TestPromise79BehindRestOneComesToTheRootByUp(t *testing.T) {
	eachRested(t, func(name string, before impl.Net, after impl.Net) {
		for _, node := range reachOf(before.Links) {
			for steps := 0; node != 0; steps++ {
				x := after.Nodes[node]
				if steps > 4 || x.Up == -1 || !linkedIn(after, node, x.Up) || after.Nodes[x.Up].Level >= x.Level {
					t.Fatalf("%s: from %d one does not come to the root: %+v", name, node, x)
				}
				node = x.Up
			}
		}
	})
}

func TestPromise80BehindRestNoLevelIsAboveThatOfWhoIsLinkedAnd1(t *testing.T) {
	eachRested(t, func(name string, before impl.Net, after impl.Net) {
		reach := reachOf(before.Links)
		for _, node := range reach {
			for other := range 5 {
				if linkedIn(after, node, other) && after.Nodes[node].Level > after.Nodes[other].Level+1 {
					t.Errorf("%s: %d has the Level %d, and %d, that is linked, %d", name, node, after.Nodes[node].Level, other, after.Nodes[other].Level)
				}
			}
			if after.Nodes[node].Beacon != after.Nodes[0].Beacon {
				t.Errorf("%s: %d has the Beacon %d", name, node, after.Nodes[node].Beacon)
			}
		}
	})
}

func TestPromise81BehindRestOnceMoreTheRootKnowsTheSame(t *testing.T) {
	eachRested(t, func(name string, _ impl.Net, after impl.Net) {
		again := after
		for range 3 {
			if again.Nodes[0].Beacon < 1000 {
				again = restNet(t, again)
				mustBeAlike(t, name, again.Nodes[0].Known, after.Nodes[0].Known)
			}
		}
		mustBeAlike(t, name+", all else", again.Past, after.Past)
	})
}

// countedBy is how much those nodes have counted since they were born.
func countedBy(n impl.Net, nodes []int) int {
	num := 0
	for _, node := range nodes {
		num += len(countedNow(n, node))
	}
	return num
}

func TestPromise82BehindRestTheRootsSumIsOfAllInReach(t *testing.T) {
	whole := 0
	eachRested(t, func(name string, before impl.Net, after impl.Net) {
		reach := reachOf(before.Links)
		all := impl.SumAll(rootSum(t, after))
		if all < countedBy(before, reach) {
			t.Errorf("%s: the root's sum is of %d, those in reach have counted %d", name, all, countedBy(before, reach))
		}
		if len(reach) == 5 {
			whole++
			if all != countedBy(before, reach) {
				t.Errorf("%s: the root's sum is of %d, all have counted %d", name, all, countedBy(before, reach))
			}
		}
	})
	if whole < 20 {
		t.Errorf("just %d have all in reach", whole)
	}
}

func TestPromise82OfAllFiveWithAHundredThingsEach(t *testing.T) {
	full := restNet(t, fullNet(t))
	if all := impl.SumAll(rootSum(t, full)); all != 500 {
		t.Errorf("the root's sum is of %d", all)
	}
	n := doNet(t, full, deedOf(impl.DeedCrash, 3, 0))
	if all := impl.SumAll(rootSum(t, n)); all != 500 {
		t.Errorf("the root's sum is of %d, ahead of NetRest", all)
	}
	if all := impl.SumAll(rootSum(t, restNet(t, n))); all != 400 {
		t.Errorf("the root's sum is of %d, of those that counted 100 since they were born", all)
	}
}

func TestPromise83WhateverHappensBehindRestTheRootKnowsAllOfAllInReach(t *testing.T) {
	random := rand.New(rand.NewPCG(30, 31))
	for i := range 60 {
		n := newNet(t, [][]int{chain, allLinked, linkSets()["a ring"], linkSets()["a chain in turns"], linkSets()["the last in middle"]}[i%5])
		for range 3 {
			n = runNet(t, n, someDeeds(random, random.IntN(120), 3+i%20)...)
			x := restNet(t, n)
			known := impl.NetKnown(x, 0)
			for _, node := range reachOf(n.Links) {
				e, _ := entryIn(known, node)
				mustBeAlike(t, "what the root knows", e, entryOf(n, node, n.Nodes[node].Born, len(countedNow(n, node))))
			}
			if i%2 == 0 {
				n = x
			}
		}
	}
}

// eachLinked calls for all links there may be: each of the ten is whole, or not.
func eachLinked(t *testing.T, check func(n impl.Net)) {
	t.Helper()
	for mask := range 1 << 10 {
		var links []int
		for i := range 10 {
			if mask>>i&1 == 1 {
				links = append(links, allLinked[2*i], allLinked[2*i+1])
			}
		}
		check(newNet(t, links))
	}
}

func TestPromise83And79OfAllLinksThereMayBe(t *testing.T) {
	eachLinked(t, func(n impl.Net) {
		reach, x := reachOf(n.Links), restNet(t, n)
		if len(x.Nodes[0].Known) != len(reach) {
			t.Errorf("of %v the root knows %v", reach, x.Nodes[0].Known)
		}
		for node := range 5 {
			if in := slices.Contains(reach, node); in != (x.Nodes[node].Up != -1 || node == 0) || in != (x.Nodes[node].Beacon == 1) {
				t.Errorf("%d is %+v, in reach are %v", node, x.Nodes[node], reach)
			}
		}
	})
}

func TestPromise84And85ReachIsWhoIsLinkedWithTheRootByOthers(t *testing.T) {
	eachLinked(t, func(n impl.Net) {
		reach := impl.NetReach(n)
		if !slices.Equal(reach, reachOf(n.Links)) {
			t.Fatalf("in reach are %v, not %v", reach, reachOf(n.Links))
		}
		mustBeReach(t, "of all links there may be", n, reach)
	})
	eachNet(t, func(name string, n impl.Net) { mustBeReach(t, name, n, impl.NetReach(n)) })
}

// mustBeReach fails unless of two that are linked both are in reach, or none, and each but the root is linked with one that is.
func mustBeReach(t *testing.T, what string, n impl.Net, reach []int) {
	t.Helper()
	if !slices.Contains(reach, 0) || !slices.IsSorted(reach) {
		t.Fatalf("%s: in reach are %v", what, reach)
	}
	for one := range 5 {
		near := one == 0
		for other := range 5 {
			if linkedIn(n, one, other) && slices.Contains(reach, one) != slices.Contains(reach, other) {
				t.Fatalf("%s: %d and %d are linked, in reach are %v", what, one, other, reach)
			}
			near = near || linkedIn(n, one, other) && slices.Contains(reach, other)
		}
		if slices.Contains(reach, one) && !near {
			t.Fatalf("%s: %d is linked with none of %v", what, one, reach)
		}
	}
}

func TestPromise84ReachAtTheEdges(t *testing.T) {
	for name, c := range map[string]struct{ links, reach []int }{
		"no link":                {nil, []int{0}},
		"next to the root":       {[]int{0, 3}, []int{0, 3}},
		"by one other":           {[]int{3, 4, 0, 3}, []int{0, 3, 4}},
		"by three others":        {[]int{1, 2, 3, 1, 4, 3, 0, 4}, []int{0, 1, 2, 3, 4}},
		"linked, but not with 0": {[]int{1, 2, 2, 3, 3, 1}, []int{0}},
		"two parts":              {[]int{0, 4, 1, 2, 2, 3}, []int{0, 4}},
		"all":                    {allLinked, []int{0, 1, 2, 3, 4}},
	} {
		if reach := impl.NetReach(newNet(t, c.links)); !slices.Equal(reach, c.reach) {
			t.Errorf("%s: in reach are %v, not %v", name, reach, c.reach)
		}
	}
}

func TestPromise84NothingIsInReachWhereThereAreNotAsManyLinks(t *testing.T) {
	good := newNet(t, chain)
	for num := range 60 {
		n := changed(good, func(n *impl.Net) { n.Links = slices.Repeat(n.Links, 3)[:num] })
		want := []int{0, 1, 2, 3, 4}
		if num != 25 {
			want = nil
		}
		if reach := impl.NetReach(n); !slices.Equal(reach, want) {
			t.Errorf("with %d links %v are in reach", num, reach)
		}
	}
	if reach := impl.NetReach(impl.Net{}); len(reach) != 0 {
		t.Errorf("of nothing %v are in reach", reach)
	}
	// All else is not looked at: it is said of the links alone.
	alone := impl.Net{Links: good.Links}
	if reach := impl.NetReach(alone); !slices.Equal(reach, []int{0, 1, 2, 3, 4}) {
		t.Errorf("of links alone %v are in reach", reach)
	}
}

// A net of which a link is whole one way alone is not ok, but NetReach asks only for as many links: it goes from the root on, each link that way.
func TestReachGoesFromTheRootOnWhereLinksAreWholeOneWayAlone(t *testing.T) {
	for name, c := range map[string]struct{ places, reach []int }{
		"to 1":               {[]int{1}, []int{0, 1}},
		"from 1":             {[]int{5}, []int{0}},
		"to 1, from it to 4": {[]int{1, 9}, []int{0, 1, 4}},
		"to 1, from 4 to it": {[]int{1, 21}, []int{0, 1}},
		"with itself":        {[]int{0, 6}, []int{0}},
	} {
		n := newNet(t, nil)
		for _, place := range c.places {
			n.Links[place] = true
		}
		if reach := impl.NetReach(n); !slices.Equal(reach, c.reach) || impl.NetOk(n) {
			t.Errorf("%s: in reach are %v, not %v", name, reach, c.reach)
		}
	}
}

func TestPromise94OneThingMoreIsOneMoreInTheRootsSum(t *testing.T) {
	eachRested(t, func(name string, before impl.Net, after impl.Net) {
		all := impl.SumAll(rootSum(t, after))
		for _, node := range reachOf(before.Links) {
			if len(countedNow(before, node)) == 100 {
				continue
			}
			x := restNet(t, doNet(t, before, deedOf(impl.DeedCount, node, 21)))
			if now := impl.SumAll(rootSum(t, x)); now != all+1 {
				t.Errorf("%s: %d has counted one more, the root's sum is of %d, it was of %d", name, node, now, all)
			}
		}
	})
}

func TestPromise98WhoIsBornAnewIsKnownSoByTheRoot(t *testing.T) {
	eachRested(t, func(name string, before impl.Net, _ impl.Net) {
		for _, node := range reachOf(before.Links) {
			if before.Nodes[node].Born == 20 {
				continue
			}
			x := restNet(t, doNet(t, before, deedOf(impl.DeedCrash, node, 0)))
			e, _ := entryIn(x.Nodes[0].Known, node)
			mustBeAlike(t, name, e, impl.Entry{Node: node, Born: before.Nodes[node].Born + 1, Sum: noSum()})
		}
	})
}

func TestPromise98TheRootThatIsBornAnewKnowsAllInReachAgain(t *testing.T) {
	n := restNet(t, runNet(t, newNet(t, chain), slices.Concat(countsOf(0, []int{1}), countsOf(4, []int{2, 3}))...))
	n = doNet(t, n, deedOf(impl.DeedCrash, 0, 0))
	if len(n.Nodes[0].Known) != 1 {
		t.Errorf("it knows %v", n.Nodes[0].Known)
	}
	n = restNet(t, n)
	if len(n.Nodes[0].Known) != 5 || impl.SumAll(rootSum(t, n)) != 2 || n.Nodes[0].Known[0].Born != 2 || n.Nodes[0].Beacon != 2 {
		t.Errorf("it knows %v", n.Nodes[0].Known)
	}
}
