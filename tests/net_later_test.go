package tests

import (
	"slices"
	"testing"

	"loop.example/inkling/impl"
)

// helloTo is what a node is behind a hello that is heard by it alone.
func helloTo(t *testing.T, n impl.Net, to int, from int, beacon int, level int) impl.Node {
	t.Helper()
	n = changed(n, func(n *impl.Net) {
		n.Words = []impl.Word{{Kind: impl.WordHello, From: from, To: to, Beacon: beacon, Level: level}}
	})
	x := doNet(t, n, deedOf(impl.DeedTake, 0, 0))
	n.Nodes[to], n.Words = x.Nodes[to], nil
	mustBeNet(t, "all but who hears", x, true, n)
	return x.Nodes[to]
}

func TestPromise74AnotherUpIsByANewerBeaconOrALesserLevel(t *testing.T) {
	base := changed(newNet(t, allLinked), func(n *impl.Net) { n.Nodes[0].Beacon = 9 })
	for to := 1; to < 5; to++ {
		up, from := to%4+1, (to+1)%4+1
		for own := 1; own <= 5; own++ {
			for level := range 5 {
				for beacon := 4; beacon <= 6; beacon++ {
					n := changed(base, func(n *impl.Net) {
						n.Nodes[to].Beacon, n.Nodes[to].Level, n.Nodes[to].Up = 5, own, up
						if own == 5 {
							n.Nodes[to].Up = -1
						}
					})
					was, is := n.Nodes[to], helloTo(t, n, to, from, beacon, level)
					want := was
					if beacon == 6 || beacon == 5 && level+1 < own {
						want.Beacon, want.Level, want.Up = beacon, level+1, from
					}
					if beacon == 6 && level == 4 {
						want.Up = -1
					}
					mustBeAlike(t, "who hears", is, want)
					if is.Up != was.Up && is.Up != -1 && is.Beacon <= was.Beacon && is.Level >= was.Level {
						t.Errorf("another Up, but %d/%d behind %d/%d", is.Beacon, is.Level, was.Beacon, was.Level)
					}
				}
			}
		}
	}
}

func TestPromise74HellosAtTheEdges(t *testing.T) {
	n := changed(newNet(t, allLinked), func(n *impl.Net) {
		n.Nodes[0].Beacon = 1000
		n.Nodes[3].Beacon, n.Nodes[3].Level, n.Nodes[3].Up = 7, 3, 2
	})
	for name, c := range map[string]struct{ from, beacon, level, wantBeacon, wantLevel, wantUp int }{
		"the same Beacon, a Level two less":         {1, 7, 1, 7, 2, 1},
		"the same Beacon, the root itself":          {0, 7, 0, 7, 1, 0},
		"the same Beacon, a Level one less":         {1, 7, 2, 7, 3, 2},
		"the same Beacon, the same Level":           {1, 7, 3, 7, 3, 2},
		"the same Beacon, a greater Level":          {1, 7, 4, 7, 3, 2},
		"the same Beacon, of who is Up":             {2, 7, 2, 7, 3, 2},
		"a newer Beacon, a lesser Level":            {1, 8, 1, 8, 2, 1},
		"a newer Beacon, the same Level":            {1, 8, 2, 8, 3, 1},
		"a newer Beacon, a greater Level":           {1, 8, 3, 8, 4, 1},
		"a newer Beacon, the Level NetNodes-1":      {1, 8, 4, 8, 5, -1},
		"a newer Beacon, NetNodes-1, of who is Up":  {2, 8, 4, 8, 5, -1},
		"the newest Beacon":                         {4, 1000, 0, 1000, 1, 4},
		"the newest Beacon, the Level NetNodes-1":   {4, 1000, 4, 1000, 5, -1},
		"an older Beacon, the root itself":          {0, 6, 0, 7, 3, 2},
		"an older Beacon, the Level NetNodes-1":     {1, 6, 4, 7, 3, 2},
		"the oldest Beacon":                         {0, 0, 0, 7, 3, 2},
		"a newer Beacon, of who is Up":              {2, 8, 2, 8, 3, 2},
		"a newer Beacon, of who is Up, but farther": {2, 9, 3, 9, 4, 2},
	} {
		x := helloTo(t, n, 3, c.from, c.beacon, c.level)
		if x.Beacon != c.wantBeacon || x.Level != c.wantLevel || x.Up != c.wantUp {
			t.Errorf("%s: %d %d %d", name, x.Beacon, x.Level, x.Up)
		}
	}
	fresh := newNet(t, allLinked)
	if x := helloTo(t, fresh, 2, 1, 0, 4); x.Level != 5 || x.Up != -1 || x.Beacon != 0 {
		t.Errorf("by the same Beacon the Level NetNodes: %+v", x)
	}
	if x := helloTo(t, fresh, 2, 1, 0, 3); x.Level != 4 || x.Up != 1 || x.Beacon != 0 {
		t.Errorf("by the same Beacon the Level NetNodes-1: %+v", x)
	}
}

func TestPromise74NothingElseIsKnownThen(t *testing.T) {
	heard := 0
	eachStep(t, 4, 28, func(before impl.Net, d impl.Deed, after impl.Net, can bool) {
		if !can || d.Kind != impl.DeedTake && d.Kind != impl.DeedTwice {
			return
		}
		w := before.Words[d.A]
		for node, is := range after.Nodes {
			was := before.Nodes[node]
			if is.Up != was.Up || is.Beacon != was.Beacon || is.Level != was.Level {
				heard++
				if w.Kind != impl.WordHello || w.To != node || is.Beacon <= was.Beacon && is.Level >= was.Level {
					t.Fatalf("by %+v %+v is %+v", w, was, is)
				}
			}
			if w.Kind == impl.WordHello {
				mustBeAlike(t, "what is known", is.Known, was.Known)
			}
		}
	})
	if heard < 50 {
		t.Errorf("just %d have another Up", heard)
	}
}

func TestPromise75NoBeaconIsAboveTheRootsAndNoneIsLessLater(t *testing.T) {
	eachStep(t, 5, 28, func(before impl.Net, d impl.Deed, after impl.Net, can bool) {
		if !can {
			return
		}
		for node, is := range after.Nodes {
			anew := d.Kind == impl.DeedCrash && d.A == node && node > 0
			if is.Beacon > after.Nodes[0].Beacon || is.Beacon < before.Nodes[node].Beacon && !anew {
				t.Fatalf("behind %+v %d has the Beacon %d, it had %d", d, node, is.Beacon, before.Nodes[node].Beacon)
			}
		}
		for _, w := range after.Words {
			if w.Beacon > after.Nodes[0].Beacon {
				t.Fatalf("behind %+v a word has the Beacon %d", d, w.Beacon)
			}
		}
	})
	eachNet(t, func(name string, n impl.Net) {
		if n.Nodes[0].Beacon == 1000 {
			return
		}
		for node := range 5 {
			above := changed(n, func(n *impl.Net) { n.Nodes[node].Beacon = n.Nodes[0].Beacon + 1 })
			if impl.NetOk(above) && node > 0 {
				t.Errorf("%s: %d may have a Beacon above the root's", name, node)
			}
		}
	})
}

func TestPromise76WhatANodeKnowsIsNotOlderLater(t *testing.T) {
	eachStep(t, 6, 28, func(before impl.Net, d impl.Deed, after impl.Net, can bool) {
		if !can {
			return
		}
		for node, was := range before.Nodes {
			for _, e := range was.Known {
				now, has := entryIn(after.Nodes[node].Known, e.Node)
				older := !has || now.Born < e.Born || now.Born == e.Born && now.Num < e.Num
				if older && (d.Kind != impl.DeedCrash || d.A != node) {
					t.Fatalf("behind %+v %d knows %+v, it knew %+v", d, node, now, e)
				}
			}
		}
	})
}

func TestPromise77WhatWasCountedStaysAndMoreComesBehind(t *testing.T) {
	eachStep(t, 7, 28, func(before impl.Net, d impl.Deed, after impl.Net, can bool) {
		if !can {
			return
		}
		more := 0
		for node, births := range before.Past {
			for born, list := range births {
				now := after.Past[node][born]
				if len(now) < len(list) || !slices.Equal(now[:len(list)], list) {
					t.Fatalf("behind %+v %d has counted %v, it had %v", d, node, now, list)
				}
				more += len(now) - len(list)
			}
			if anew := len(after.Past[node]) - len(births); anew != 0 && (anew != 1 || d.Kind != impl.DeedCrash || d.A != node) {
				t.Fatalf("behind %+v %d is born %d times more", d, node, anew)
			}
		}
		if more != 0 && (more != 1 || d.Kind != impl.DeedCount) {
			t.Fatalf("behind %+v there are %d things more", d, more)
		}
	})
}

func TestPromise92WhatTwoNodesCountMayHappenInEitherOrder(t *testing.T) {
	eachNet(t, func(name string, n impl.Net) {
		for one := range 5 {
			for other := range one {
				for _, things := range [][2]int{{5, 5}, {0, 63}, {63, 8}} {
					a, b := deedOf(impl.DeedCount, one, things[0]), deedOf(impl.DeedCount, other, things[1])
					mustBeAlike(t, name, runNet(t, n, a, b), runNet(t, n, b, a))
				}
			}
		}
	})
}

// mayTurn says whether it may not matter which of both is heard first: of two hellos of others to the same node who comes first is Up.
func mayTurn(one impl.Word, other impl.Word) bool {
	return one.To != other.To || one.Kind != impl.WordHello || other.Kind != impl.WordHello || one.From == other.From
}

func TestPromise93AnOlderWordAheadOfANewerOneOrBehindItComesOutTheSame(t *testing.T) {
	turned := 0
	eachNet(t, func(name string, n impl.Net) {
		for second := range n.Words {
			for first := range second {
				// Of many words every third two are enough.
				if !mayTurn(n.Words[first], n.Words[second]) || len(n.Words) > 12 && (first+second)%3 > 0 {
					continue
				}
				turned++
				ahead := doNet(t, n, deedOf(impl.DeedTake, first, 0), deedOf(impl.DeedTake, second-1, 0))
				behind := doNet(t, n, deedOf(impl.DeedTake, second, 0), deedOf(impl.DeedTake, first, 0))
				mustBeAlike(t, name, behind, ahead)
			}
		}
	})
	if turned < 300 {
		t.Errorf("just %d are turned", turned)
	}
}

func TestPromise93OlderWordsOfANodeThatIsBornAnew(t *testing.T) {
	n := restNet(t, runNet(t, newNet(t, chain), countsOf(1, []int{1, 2, 3})...))
	n = doNet(t, n, deedOf(impl.DeedTell, 1, 0), deedOf(impl.DeedCount, 1, 4), deedOf(impl.DeedTell, 1, 0), deedOf(impl.DeedHello, 0, 0), deedOf(impl.DeedCrash, 1, 0), deedOf(impl.DeedTake, 2, 0))
	n = doNet(t, n, deedOf(impl.DeedTell, 1, 0), deedOf(impl.DeedCount, 1, 5), deedOf(impl.DeedTell, 1, 0), deedOf(impl.DeedCrash, 0, 0))
	words := n.Words
	if len(words) != 4 {
		t.Fatalf("there are %d words", len(words))
	}
	for code := range 4 * 4 * 4 * 4 {
		order := []int{code % 4, code / 4 % 4, code / 16 % 4, code / 64}
		x := changed(n, func(n *impl.Net) {
			n.Words = []impl.Word{words[order[0]], words[order[1]], words[order[2]], words[order[3]]}
		})
		x = doNet(t, x, oftenDone(4, deedOf(impl.DeedTake, 0, 0))...)
		newest := slices.Max(order)
		want, _ := entryIn(words[newest].Known, 1)
		got, _ := entryIn(x.Nodes[0].Known, 1)
		mustBeAlike(t, "in any order, some of them twice", got, want)
	}
}

func TestPromise95AHelloToTheRootChangesNothing(t *testing.T) {
	eachNet(t, func(name string, n impl.Net) {
		for from := 1; from < 5; from++ {
			for _, level := range []int{0, 4} {
				for _, beacon := range []int{0, n.Nodes[0].Beacon} {
					x := changed(n, func(n *impl.Net) {
						n.Words = []impl.Word{{Kind: impl.WordHello, From: from, To: 0, Beacon: beacon, Level: level}}
					})
					mustBeNet(t, name+", heard", doNet(t, x, deedOf(impl.DeedTwice, 0, 0)), true, x)
					mustBeNet(t, name+", taken", doNet(t, x, deedOf(impl.DeedTake, 0, 0)), true, doNet(t, x, deedOf(impl.DeedLose, 0, 0)))
				}
			}
		}
	})
}

func TestPromise99ADeedMakesAtMostNetNodesLessOneWordsMoreOrOneLess(t *testing.T) {
	most := 0
	eachStep(t, 8, 28, func(before impl.Net, d impl.Deed, after impl.Net, can bool) {
		if !can {
			return
		}
		more := len(after.Words) - len(before.Words)
		most = max(most, more)
		if more < -1 || more > 4 || len(after.Words) > 24 {
			t.Fatalf("%+v makes %d words %d", d, len(before.Words), len(after.Words))
		}
		wants := map[int]int{impl.DeedTell: 1, impl.DeedTake: -1, impl.DeedLose: -1}
		if d.Kind != impl.DeedHello && more != wants[d.Kind] || d.Kind == impl.DeedHello && more < 1 {
			t.Fatalf("%+v makes %d words %d", d, len(before.Words), len(after.Words))
		}
	})
	if most != 4 {
		t.Errorf("at most %d words more", most)
	}
}

func TestPromise100LinksChangeJustByCutAndMend(t *testing.T) {
	eachStep(t, 9, 28, func(before impl.Net, d impl.Deed, after impl.Net, can bool) {
		if !can {
			return
		}
		turned := 0
		for place := range 25 {
			if before.Links[place] != after.Links[place] {
				turned++
				one, other := place/5, place%5
				if one != d.A && one != d.B || other != d.A && other != d.B || after.Links[place] != (d.Kind == impl.DeedMend) {
					t.Fatalf("by %+v the link of %d and %d is turned", d, one, other)
				}
			}
		}
		if isTurn := d.Kind == impl.DeedCut || d.Kind == impl.DeedMend; isTurn != (turned == 2) || !isTurn && turned != 0 {
			t.Fatalf("by %+v %d links are turned", d, turned)
		}
	})
	eachNet(t, func(name string, n impl.Net) {
		if n.Nodes[0].Beacon < 1000 {
			mustBeAlike(t, name+", behind NetRest", restNet(t, n).Links, n.Links)
		}
	})
}
