package tests

import (
	"math"
	"math/rand/v2"
	"reflect"
	"slices"
	"testing"

	"loop.example/inkling/impl"
)

func TestPromise59ANetBeginsOkLinkedSoWithoutWordsAndNothingCounted(t *testing.T) {
	for name, links := range linkSets() {
		n, ok := impl.NetNew(links)
		want := impl.Net{Links: make([]bool, 25)}
		for node := range 5 {
			want.Nodes = append(want.Nodes, justBorn(node, 1, 0))
			want.Past = append(want.Past, [][]int{nil, nil})
		}
		for i := 0; i < len(links); i += 2 {
			want.Links[links[i]*5+links[i+1]] = true
			want.Links[links[i+1]*5+links[i]] = true
		}
		mustBeNet(t, name, n, ok, want)
	}
}

func TestPromise59LinksAreTwoByTwo(t *testing.T) {
	for place := range 25 {
		one, other := place/5, place%5
		n, ok := impl.NetNew([]int{one, other})
		if one == other {
			mustRefuseNet(t, "a node linked with itself", n, ok)
			continue
		}
		for at, whole := range n.Links {
			if whole != (at == place || at == other*5+one) {
				t.Errorf("linked %d with %d there is %v at %d", one, other, whole, at)
			}
		}
	}
}

func TestPromise59WhatAreNoLinks(t *testing.T) {
	bad := map[string][]int{
		"one number":          {0},
		"three numbers":       {0, 1, 2},
		"39 numbers":          slices.Concat(allLinked, allLinked)[:39],
		"41 numbers":          slices.Concat(allLinked, allLinked, []int{0}),
		"42 numbers":          slices.Concat(allLinked, allLinked, []int{0, 1}),
		"42, of one link":     slices.Repeat([]int{3, 1}, 21),
		"400 numbers":         slices.Repeat(allLinked, 20),
		"itself, ahead":       {2, 2, 0, 1},
		"itself, behind":      {0, 1, 2, 2},
		"itself, the root":    {0, 0},
		"itself, the last":    {4, 4},
		"5, behind":           {0, 5},
		"5, ahead":            {5, 0},
		"-1, behind":          {0, -1},
		"-1, ahead":           {-1, 0},
		"no nodes":            {5, 6},
		"no node at the end":  slices.Concat(allLinked, []int{1, 5}),
		"no node twice":       {5, 5},
		"far above":           {0, math.MaxInt},
		"far below":           {math.MinInt, 0},
		"6 and 0, as 1 and 1": {6, 0},
	}
	for name, links := range bad {
		n, ok := impl.NetNew(links)
		mustRefuseNet(t, name, n, ok)
	}
}

func TestPromise60InAnOkNetLinksAreEitherWayAndWordsNotTooMany(t *testing.T) {
	eachNet(t, func(name string, n impl.Net) {
		if !impl.NetOk(n) || len(n.Words) > 24 {
			t.Fatalf("%s: not ok, with %d words", name, len(n.Words))
		}
		for place := range 25 {
			one, other := place/5, place%5
			if linkedIn(n, one, other) != linkedIn(n, other, one) || one == other && linkedIn(n, one, one) {
				t.Errorf("%s: %d and %d are linked one way alone, or with itself", name, one, other)
			}
			oneWay := changed(n, func(n *impl.Net) { n.Links[place] = !n.Links[place] })
			if impl.NetOk(oneWay) {
				t.Errorf("%s: ok, when just the link at %d is turned", name, place)
			}
		}
	})
}

func TestPromise60JustNetWordsWordsAndOneMore(t *testing.T) {
	n := fullNet(t)
	words := n.Words
	for num := range 60 {
		n.Words = slices.Repeat(words, 3)[:num]
		if ok := impl.NetOk(n); ok != (num <= impl.NetWords) {
			t.Errorf("with %d words it is %v", num, ok)
		}
	}
}

// eachStep does deeds at random, one behind the other, in nets that are linked in all ways, and calls with what was ahead, and what is behind.
func eachStep(t *testing.T, seed uint64, walks int, check func(before impl.Net, d impl.Deed, after impl.Net, can bool)) {
	t.Helper()
	random := rand.New(rand.NewPCG(seed, 21))
	nets := []impl.Net{newNet(t, chain), newNet(t, allLinked), newNet(t, linkSets()["a ring"]), newNet(t, linkSets()["the root in middle"]), richNet(t), tunedNet(t), bornNet(t)}
	for walk := range walks {
		n := nets[walk%len(nets)]
		for range 60 {
			d := someDeed(random, min(len(n.Words), 3))
			after, can := impl.NetDo(n, d)
			check(n, d, after, can)
			if can {
				n = after
			}
		}
	}
}

func TestPromise61WhateverHappensAllThatNodesKnowIsTrue(t *testing.T) {
	known := 0
	eachStep(t, 1, 21, func(_ impl.Net, d impl.Deed, after impl.Net, can bool) {
		for node, x := range after.Nodes {
			known += len(x.Known)
			if !areTrue(after, x.Known) {
				t.Fatalf("behind %+v the node %d knows %+v", d, node, x.Known)
			}
		}
		if can && !impl.NetOk(after) {
			t.Fatalf("behind %+v %+v is not ok", d, after)
		}
	})
	if known < 2000 {
		t.Errorf("just %d entries", known)
	}
}

func TestPromise62WhateverHappensAllThatWordsTellIsTrue(t *testing.T) {
	told := 0
	eachStep(t, 2, 21, func(_ impl.Net, d impl.Deed, after impl.Net, _ bool) {
		for place, w := range after.Words {
			told += len(w.Known)
			if !areTrue(after, w.Known) || w.Kind == impl.WordHello && len(w.Known) > 0 {
				t.Fatalf("behind %+v the word %d tells %+v", d, place, w.Known)
			}
		}
	})
	if told < 1000 {
		t.Errorf("just %d entries", told)
	}
}

// What is known, and told, may be older, or none at all; so may an entry be of what was counted before the node was born anew.
func TestPromise61And62AllThatIsTrueIsOk(t *testing.T) {
	rich := richNet(t)
	for node := range 5 {
		for of := range 5 {
			for born := 1; born <= rich.Nodes[of].Born; born++ {
				for num := range len(rich.Past[of][born]) + 1 {
					n := plain(rich)
					e := entryOf(n, of, born, num)
					n.Nodes[node].Known = knownWith(n.Nodes[node].Known, e)
					itself := born == n.Nodes[of].Born && num == len(n.Past[of][born])
					if ok := impl.NetOk(n); ok != (of != node || itself) {
						t.Errorf("that %d knows of %d, Born %d, Num %d, is %v", node, of, born, num, ok)
					}
					told := changed(rich, func(n *impl.Net) { n.Words[3].Known = []impl.Entry{e} })
					if !impl.NetOk(told) {
						t.Errorf("that it is told of %d, Born %d, Num %d, is not ok", of, born, num)
					}
				}
			}
		}
	}
}

func TestEdgesOfNetsAreOk(t *testing.T) {
	eachNet(t, func(name string, n impl.Net) {
		if !okNet(n) || !impl.NetOk(n) {
			t.Errorf("%s: not ok", name)
		}
	})
	born, full := bornNet(t), fullNet(t)
	if born.Nodes[0].Born != 20 || born.Nodes[2].Born != 20 || len(full.Words) != 24 {
		t.Error("the edges are not met")
	}
	for node := range 5 {
		if len(countedNow(full, node)) != 100 || len(full.Nodes[0].Known) != 5 {
			t.Error("not all is full")
		}
	}
	// The empty list and the nil list are the same.
	n := changed(richNet(t), func(n *impl.Net) {
		n.Past[4], n.Past[3][0] = [][]int{{}, {}}, []int{}
		n.Words[7].Known = []impl.Entry{}
		n.Nodes[4].Known[0].Sum.Few.Kept = []int{}
		n.Nodes[4].Known[0].Sum.Top.Pairs = []impl.Pair{}
		n.Nodes[4].Known[0].Sum.Rank.Knots = []impl.Knot{}
	})
	if !impl.NetOk(n) {
		t.Error("with empty lists it is not ok")
	}
}

func TestPromise91InWhatIsNoNetNothingHappens(t *testing.T) {
	for name, n := range brokenNets(t) {
		if impl.NetOk(n) || okNet(n) {
			t.Errorf("%s: ok", name)
		}
		for kind := range 12 {
			got, ok := impl.NetDo(n, deedOf(kind, 1, 3))
			mustRefuseNet(t, name+", NetDo", got, ok)
			got, ok = impl.NetRun(n, []impl.Deed{deedOf(kind, 0, 1)})
			mustRefuseNet(t, name+", NetRun", got, ok)
		}
		got, ok := impl.NetRun(n, nil)
		mustRefuseNet(t, name+", NetRun of nothing", got, ok)
		got, ok = impl.NetRest(n)
		mustRefuseNet(t, name+", NetRest", got, ok)
	}
}

func TestPromise91InWhatIsNoNetNothingIsKnown(t *testing.T) {
	rich := richNet(t)
	for name, n := range brokenNets(t) {
		for _, node := range []int{0, 1, 2, 3, 4, 5, -1} {
			if known := impl.NetKnown(n, node); len(known) != 0 {
				t.Errorf("%s: %d knows %v", name, node, known)
			}
			s, ok := impl.NetSum(n, node)
			mustRefuseSum(t, name+", NetSum", s, ok)
		}
		for _, list := range [][]impl.Entry{rich.Nodes[0].Known, rich.Nodes[1].Known, nil} {
			if things := impl.NetList(n, list); len(things) != 0 {
				t.Errorf("%s: NetList is %v", name, things)
			}
		}
	}
}

func TestNetsThatAreTwistedAreOkJustWhereTheChapterSaysSo(t *testing.T) {
	random := rand.New(rand.NewPCG(22, 23))
	var nets []impl.Net
	for _, name := range []string{"rich", "tuned", "all, walked", "a ring, walked", "born anew"} {
		nets = append(nets, sampleNet(t, name))
	}
	good := 0
	for i := range 4000 {
		base := nets[i%len(nets)]
		n := plain(base)
		twist(random, reflect.ValueOf(&n).Elem())
		if i%3 == 0 {
			twist(random, reflect.ValueOf(&n).Elem())
		}
		want := okNet(n)
		if ok := impl.NetOk(n); ok != want {
			t.Fatalf("%+v is %v, it differs by: %s", n, ok, difference("", reflect.ValueOf(n), reflect.ValueOf(base)))
		}
		if want {
			good++
		}
	}
	if good < 100 {
		t.Errorf("just %d are ok", good)
	}
}

func TestPromise96AllButTheRootHaveUpJustIfTheirLevelIsBelowNetNodes(t *testing.T) {
	check := func(n impl.Net) {
		for node, x := range n.Nodes {
			if node > 0 && (x.Up != -1) != (x.Level < impl.NetNodes) || node == 0 && x.Up != -1 {
				t.Fatalf("the node %d has the Level %d and Up %d", node, x.Level, x.Up)
			}
		}
	}
	eachNet(t, func(_ string, n impl.Net) { check(n) })
	eachStep(t, 3, 14, func(_ impl.Net, _ impl.Deed, after impl.Net, _ bool) { check(after) })
	for node := range 5 {
		for level := -1; level <= 6; level++ {
			for up := -2; up <= 5; up++ {
				n := newNet(t, allLinked)
				n.Nodes[node].Level, n.Nodes[node].Up = level, up
				want := level == 5 && up == -1 || level >= 1 && level <= 4 && up >= 0 && up <= 4 && up != node
				if node == 0 {
					want = level == 0 && up == -1
				}
				if ok := impl.NetOk(n); ok != want {
					t.Errorf("that %d has the Level %d and Up %d is %v", node, level, up, ok)
				}
			}
		}
	}
}
