package tests

import (
	"math/rand/v2"
	"slices"
	"testing"

	"loop.example/inkling/impl"
)

// eachDeed calls for each net of the sample with each deed, and with what NetDo has to answer.
func eachDeed(t *testing.T, check func(name string, n impl.Net, d impl.Deed, want impl.Net, can bool)) {
	t.Helper()
	eachNet(t, func(name string, n impl.Net) {
		for _, d := range allDeeds(n) {
			want, can := doneNet(n, d)
			check(name, n, d, want, can)
		}
	})
}

func TestPromise63DoIsRunOfOneAndOkAndWhatCannotBeChangesNothing(t *testing.T) {
	eachDeed(t, func(name string, n impl.Net, d impl.Deed, want impl.Net, can bool) {
		done, ok := impl.NetDo(n, d)
		ran, ranOk := impl.NetRun(n, []impl.Deed{d})
		if !can {
			mustRefuseNet(t, name, done, ok)
			mustBeAlike(t, name+", NetRun of what cannot be", ran, n)
		} else {
			mustBeNet(t, name, done, ok, want)
			mustBeAlike(t, name+", NetRun", ran, want)
		}
		if !ranOk {
			t.Fatalf("%s: NetRun of %+v is refused", name, d)
		}
	})
}

func TestPromise63WhatADeedHasNotIsNotLookedAt(t *testing.T) {
	rich := richNet(t)
	for _, d := range possibleDeeds(rich) {
		if d.Kind == impl.DeedCount || d.Kind == impl.DeedCut || d.Kind == impl.DeedMend {
			continue
		}
		want, _ := doneNet(rich, d)
		other := d
		other.B = 77
		if d.Kind == impl.DeedBeacon {
			other.A = -9
		}
		mustBeNet(t, "with another B", doNet(t, rich, other), true, want)
	}
}

func TestPromise64ThingsHappenOneBehindTheOtherCutAnywhere(t *testing.T) {
	random := rand.New(rand.NewPCG(24, 25))
	for _, name := range []string{"a chain, walked", "all, walked", "a ring, walked", "rich", "tuned", "born anew", "beacon 999", "full of words"} {
		n := sampleNet(t, name)
		deeds := someDeeds(random, 80, 5)
		whole := runNet(t, n, deeds...)
		step := plain(n)
		for _, d := range deeds {
			if x, can := doneNet(step, d); can {
				step = x
			}
		}
		mustBeNet(t, name, whole, true, step)
		for cut := range len(deeds) + 1 {
			first, ok := impl.NetRun(n, deeds[:cut])
			if !ok {
				t.Fatalf("%s: the first %d are refused", name, cut)
			}
			second, ok := impl.NetRun(first, deeds[cut:])
			if !ok {
				t.Fatalf("%s: those behind %d are refused", name, cut)
			}
			mustBeAlike(t, name+", cut", second, whole)
		}
	}
}

func TestPromise64Just200DeedsAndOneMore(t *testing.T) {
	random := rand.New(rand.NewPCG(26, 27))
	n := newNet(t, chain)
	deeds := someDeeds(random, 250, 4)
	for _, num := range []int{0, 1, 199, 200} {
		got, ok := impl.NetRun(n, deeds[:num])
		want := n
		for _, d := range deeds[:num] {
			if x, can := doneNet(want, d); can {
				want = x
			}
		}
		mustBeNet(t, "at most 200", got, ok, want)
	}
	for _, num := range []int{201, 202, 250} {
		got, ok := impl.NetRun(n, deeds[:num])
		mustRefuseNet(t, "more than 200", got, ok)
	}
	for _, d := range []impl.Deed{{}, deedOf(impl.DeedTell, 3, 0)} {
		got, ok := impl.NetRun(n, oftenDone(200, d))
		mustBeNet(t, "200 that cannot be", got, ok, n)
		got, ok = impl.NetRun(n, oftenDone(201, d))
		mustRefuseNet(t, "201 that cannot be", got, ok)
	}
	eachNet(t, func(name string, n impl.Net) {
		got, ok := impl.NetRun(n, nil)
		mustBeNet(t, name+", no deeds", got, ok, n)
	})
}

func TestPromise65ByCountANodeKnowsItselfWithOneMoreAndSumAdd(t *testing.T) {
	eachNet(t, func(name string, n impl.Net) {
		for node := range 5 {
			if len(countedNow(n, node)) == 100 {
				continue
			}
			for _, thing := range []int{0, 9, 31, 63} {
				x := doNet(t, n, deedOf(impl.DeedCount, node, thing))
				before, _ := entryIn(n.Nodes[node].Known, node)
				after, _ := entryIn(x.Nodes[node].Known, node)
				sum, _ := impl.SumAdd(before.Sum, thing)
				mustBeAlike(t, name, after, impl.Entry{Node: node, Born: before.Born, Num: before.Num + 1, Sum: sum})
				mustBeAlike(t, name+", what it counted", countedNow(x, node), append(slices.Clone(countedNow(n, node)), thing))
				// All else stays.
				x.Nodes[node].Known, x.Past[node] = n.Nodes[node].Known, n.Past[node]
				mustBeAlike(t, name+", all else", x, n)
			}
		}
	})
}

func TestPromise65JustAHundredAreCountedSinceANodeWasBorn(t *testing.T) {
	for node := range 5 {
		n := runNet(t, newNet(t, chain), countsOf(node, inTurn(99, 5))...)
		n = doNet(t, n, deedOf(impl.DeedCount, node, 63))
		if own, _ := entryIn(n.Nodes[node].Known, node); own.Num != 100 || !impl.NetOk(n) {
			t.Errorf("%d has counted %d", node, own.Num)
		}
		for _, thing := range []int{0, 63, 64, -1} {
			got, ok := impl.NetDo(n, deedOf(impl.DeedCount, node, thing))
			mustRefuseNet(t, "one more than 100", got, ok)
		}
		other := (node + 1) % 5
		doNet(t, n, deedOf(impl.DeedCount, other, 0))
		n = doNet(t, n, deedOf(impl.DeedCrash, node, 0), deedOf(impl.DeedCount, node, 1))
		if own, _ := entryIn(n.Nodes[node].Known, node); own.Num != 1 || own.Born != 2 || len(n.Past[node][1]) != 100 {
			t.Errorf("%d is born anew, and has counted %d", node, own.Num)
		}
		n = runNet(t, n, countsOf(node, inTurn(120, 3))...)
		if len(countedNow(n, node)) != 100 {
			t.Errorf("%d has counted %d", node, len(countedNow(n, node)))
		}
	}
}

func TestPromise65WhatIsNoNodeOrNoThingIsNotCounted(t *testing.T) {
	n := newNet(t, chain)
	for _, bad := range append(noThings(), 5, 6, 24) {
		if bad < 0 || bad > 4 {
			got, ok := impl.NetDo(n, deedOf(impl.DeedCount, bad, 3))
			mustRefuseNet(t, "no node", got, ok)
		}
		if bad < 0 || bad > 63 {
			got, ok := impl.NetDo(n, deedOf(impl.DeedCount, 3, bad))
			mustRefuseNet(t, "no thing", got, ok)
		}
	}
}

func TestPromise66ByHelloWordsGoOverLinksThatAreWhole(t *testing.T) {
	eachNet(t, func(name string, n impl.Net) {
		for node, who := range n.Nodes {
			var words []impl.Word
			for other := range 5 {
				if linkedIn(n, node, other) && len(n.Words)+len(words) < 24 {
					words = append(words, impl.Word{Kind: impl.WordHello, From: node, To: other, Beacon: who.Beacon, Level: who.Level})
				}
			}
			x, ok := impl.NetDo(n, deedOf(impl.DeedHello, node, 0))
			if len(words) == 0 || who.Level == impl.NetNodes {
				mustRefuseNet(t, name+", no word goes", x, ok)
				continue
			}
			mustBeNet(t, name, x, ok, changed(n, func(n *impl.Net) { n.Words = append(n.Words, words...) }))
		}
	})
}

func TestPromise66JustNetWordsWordsGo(t *testing.T) {
	n := newNet(t, allLinked)
	n = doNet(t, n, oftenDone(5, deedOf(impl.DeedHello, 0, 0))...)
	for _, c := range []struct{ lost, words int }{{0, 24}, {1, 23}, {2, 22}, {3, 21}, {4, 20}} {
		x := doNet(t, n, oftenDone(c.lost, deedOf(impl.DeedLose, 0, 0))...)
		for room := range 4 {
			y := x
			if len(x.Words)+room <= 24 {
				y = doNet(t, x, append(oftenDone(1, deedOf(impl.DeedHello, 0, 0)), oftenDone(room, deedOf(impl.DeedLose, 0, 0))...)...)
			}
			before := len(y.Words)
			z, ok := impl.NetDo(y, deedOf(impl.DeedHello, 0, 0))
			if ok != (before < 24) || ok && len(z.Words) != min(24, before+4) {
				t.Errorf("with %d words, there are %d then", before, len(z.Words))
			}
			for i := before; ok && i < len(z.Words); i++ {
				if z.Words[i].To != i-before+1 {
					t.Errorf("the word %d goes to %d", i, z.Words[i].To)
				}
			}
		}
	}
	full := fullNet(t)
	for node := range 5 {
		got, ok := impl.NetDo(full, deedOf(impl.DeedHello, node, 0))
		mustRefuseNet(t, "no room", got, ok)
	}
}

func TestPromise66WhoHasNobodyNextToTheRootSaysNothing(t *testing.T) {
	n := newNet(t, allLinked)
	for node := 1; node < 5; node++ {
		got, ok := impl.NetDo(n, deedOf(impl.DeedHello, node, 0))
		mustRefuseNet(t, "nobody is next to the root", got, ok)
	}
	n = doNet(t, n, deedOf(impl.DeedHello, 0, 0), deedOf(impl.DeedTake, 1, 0), deedOf(impl.DeedHello, 2, 0), deedOf(impl.DeedCrash, 2, 0))
	got, ok := impl.NetDo(n, deedOf(impl.DeedHello, 2, 0))
	mustRefuseNet(t, "born anew", got, ok)
	alone := newNet(t, []int{1, 2})
	got, ok = impl.NetDo(alone, deedOf(impl.DeedHello, 0, 0))
	mustRefuseNet(t, "no link", got, ok)
}

func TestPromise67ByTellOneWordGoesToUpWithAllThatIsKnown(t *testing.T) {
	told := 0
	eachNet(t, func(name string, n impl.Net) {
		for node, who := range n.Nodes {
			x, ok := impl.NetDo(n, deedOf(impl.DeedTell, node, 0))
			if who.Up == -1 || !linkedIn(n, node, who.Up) || len(n.Words) >= 24 {
				mustRefuseNet(t, name, x, ok)
				continue
			}
			told++
			word := impl.Word{Kind: impl.WordTell, From: node, To: who.Up, Known: who.Known}
			mustBeNet(t, name, x, ok, changed(n, func(n *impl.Net) { n.Words = append(n.Words, word) }))
		}
	})
	if told < 20 {
		t.Errorf("just %d words", told)
	}
}

func TestPromise67WhatIsToldStaysAsItWas(t *testing.T) {
	n := restNet(t, newNet(t, chain))
	n = doNet(t, n, deedOf(impl.DeedCount, 2, 8), deedOf(impl.DeedTell, 2, 0))
	words := plain(n.Words)
	n = doNet(t, n, deedOf(impl.DeedCount, 2, 9), deedOf(impl.DeedCrash, 2, 0), deedOf(impl.DeedCount, 2, 10))
	mustBeAlike(t, "the word", n.Words, words)
	if e, _ := entryIn(n.Words[0].Known, 2); e.Num != 1 || e.Born != 1 {
		t.Errorf("it tells %+v", e)
	}
}

func TestPromise97ANodeCanTellJustIfItHasUpTheLinkIsWholeAndThereIsRoom(t *testing.T) {
	full := fullNet(t)
	for node := range 5 {
		for words := 22; words <= 24; words++ {
			for _, isCut := range []bool{false, true} {
				for _, crash := range []bool{false, true} {
					n := plain(full)
					n.Words = n.Words[:words]
					if up := n.Nodes[node].Up; isCut && up != -1 {
						n = doNet(t, n, deedOf(impl.DeedCut, node, up))
					}
					if crash {
						n = doNet(t, n, deedOf(impl.DeedCrash, node, 0))
					}
					_, ok := impl.NetDo(n, deedOf(impl.DeedTell, node, 0))
					if want := node > 0 && words < 24 && !isCut && !crash; ok != want {
						t.Errorf("that %d tells, with %d words, the link cut: %v, born anew: %v, is %v", node, words, isCut, crash, ok)
					}
				}
			}
		}
	}
	for _, node := range []int{-1, 5, 6, 25} {
		got, ok := impl.NetDo(restNet(t, newNet(t, allLinked)), deedOf(impl.DeedTell, node, 0))
		mustRefuseNet(t, "no node", got, ok)
	}
}

// mustKnowAsNew fails unless all that was known, but of itself, is known at least as new, and is from one of both.
func mustKnowAsNew(t *testing.T, what string, node int, known []impl.Entry, told []impl.Entry, after []impl.Entry) {
	t.Helper()
	for _, e := range slices.Concat(known, told) {
		now, has := entryIn(after, e.Node)
		if e.Node != node && (!has || now.Born < e.Born || now.Born == e.Born && now.Num < e.Num) {
			t.Fatalf("%s: of %d it is known Born %d, Num %d, and then %d, %d", what, e.Node, e.Born, e.Num, now.Born, now.Num)
		}
	}
	for _, now := range after {
		old, has := entryIn(known, now.Node)
		if now.Node == node || has && isAlike(old, now) {
			continue
		}
		if e, _ := entryIn(told, now.Node); !isAlike(e, now) {
			t.Fatalf("%s: of %d it is known %+v", what, now.Node, now)
		}
	}
}

func TestPromise68ByTakeWhoHearsKnowsAtLeastAsNewAndAllOthersStay(t *testing.T) {
	eachNet(t, func(name string, n impl.Net) {
		for place, w := range n.Words {
			x := doNet(t, n, deedOf(impl.DeedTake, place, 0))
			mustKnowAsNew(t, name, w.To, n.Nodes[w.To].Known, w.Known, x.Nodes[w.To].Known)
			own, _ := entryIn(n.Nodes[w.To].Known, w.To)
			now, _ := entryIn(x.Nodes[w.To].Known, w.To)
			mustBeAlike(t, name+", itself", now, own)
			x.Nodes[w.To] = n.Nodes[w.To]
			want := changed(n, func(n *impl.Net) { n.Words = slices.Delete(n.Words, place, place+1) })
			mustBeAlike(t, name+", all others", x, want)
		}
	})
}

func TestPromise68OfEachNodeTheNewerIsKnown(t *testing.T) {
	// The node 2 was born anew, and has counted twice then; before that it has counted three times.
	n := runNet(t, newNet(t, chain), countsOf(2, []int{1, 2, 3})...)
	n = doNet(t, n, deedOf(impl.DeedCrash, 2, 0), deedOf(impl.DeedCount, 2, 4), deedOf(impl.DeedCount, 2, 5))
	var entries []impl.Entry
	for born := 1; born <= 2; born++ {
		for num := range len(n.Past[2][born]) + 1 {
			entries = append(entries, entryOf(n, 2, born, num))
		}
	}
	for i, known := range entries {
		for j, told := range entries {
			x := changed(n, func(n *impl.Net) {
				n.Nodes[1].Known = knownWith(n.Nodes[1].Known, known)
				n.Words = []impl.Word{{Kind: impl.WordTell, From: 3, To: 1, Known: []impl.Entry{told}}}
			})
			y := doNet(t, x, deedOf(impl.DeedTake, 0, 0))
			if e, _ := entryIn(y.Nodes[1].Known, 2); !isAlike(e, entries[max(i, j)]) {
				t.Errorf("known %d/%d, told %d/%d, it is %d/%d", known.Born, known.Num, told.Born, told.Num, e.Born, e.Num)
			}
		}
	}
}

func TestPromise68WhatIsNotKnownIsLearntByNodes(t *testing.T) {
	n := runNet(t, newNet(t, allLinked), countsOf(3, []int{9, 9})...)
	for to := range 5 {
		for mask := range 32 {
			var told []impl.Entry
			for node := range 5 {
				if mask>>node&1 == 1 {
					told = append(told, entryOf(n, node, 1, 0))
				}
			}
			x := changed(n, func(n *impl.Net) {
				n.Words = []impl.Word{{Kind: impl.WordTell, From: (to + 1) % 5, To: to, Known: told}}
			})
			x = doNet(t, x, deedOf(impl.DeedTake, 0, 0))
			var nodes []int
			for _, e := range x.Nodes[to].Known {
				nodes = append(nodes, e.Node)
			}
			var want []int
			for node := range 5 {
				if node == to || mask>>node&1 == 1 {
					want = append(want, node)
				}
			}
			if !slices.Equal(nodes, want) {
				t.Errorf("%d knows of %v, not %v", to, nodes, want)
			}
		}
	}
}

func TestPromise68AWordWhoseLinkWasCutIsHeard(t *testing.T) {
	n := restNet(t, runNet(t, newNet(t, chain), countsOf(1, []int{7})...))
	n = doNet(t, n, deedOf(impl.DeedCount, 1, 8), deedOf(impl.DeedTell, 1, 0), deedOf(impl.DeedBeacon, 0, 0), deedOf(impl.DeedHello, 0, 0), deedOf(impl.DeedCut, 0, 1))
	n = doNet(t, n, deedOf(impl.DeedTake, 0, 0))
	if e, _ := entryIn(n.Nodes[0].Known, 1); e.Num != 2 {
		t.Errorf("the root knows %+v", e)
	}
	n = doNet(t, n, deedOf(impl.DeedTake, 0, 0))
	if n.Nodes[1].Beacon != 2 || len(n.Words) != 0 {
		t.Errorf("%+v", n.Nodes[1])
	}
	got, ok := impl.NetDo(n, deedOf(impl.DeedTell, 1, 0))
	mustRefuseNet(t, "over the link that is cut", got, ok)
}

func TestPromise69HeardTwiceItIsAsHeardOnce(t *testing.T) {
	eachNet(t, func(name string, n impl.Net) {
		for place := range n.Words {
			once := doNet(t, n, deedOf(impl.DeedTake, place, 0))
			twice := doNet(t, n, deedOf(impl.DeedTwice, place, 0))
			mustBeAlike(t, name+", it stays", twice.Words, n.Words)
			mustBeAlike(t, name+", heard", twice.Nodes, once.Nodes)
			mustBeAlike(t, name+", heard twice", doNet(t, twice, deedOf(impl.DeedTwice, place, 0)), twice)
			mustBeNet(t, name, doNet(t, twice, deedOf(impl.DeedTake, place, 0)), true, once)
			mustBeNet(t, name+", lost then", doNet(t, twice, deedOf(impl.DeedLose, place, 0)), true, once)
		}
	})
}

func TestPromise70ByLoseOnlyTheWordIsGone(t *testing.T) {
	eachNet(t, func(name string, n impl.Net) {
		for place := range n.Words {
			want := changed(n, func(n *impl.Net) { n.Words = append(n.Words[:place:place], n.Words[place+1:]...) })
			mustBeNet(t, name, doNet(t, n, deedOf(impl.DeedLose, place, 0)), true, want)
		}
		for _, place := range []int{-1, len(n.Words), len(n.Words) + 1, 24, 25} {
			for _, kind := range []int{impl.DeedTake, impl.DeedTwice, impl.DeedLose} {
				if place < 0 || place >= len(n.Words) {
					got, ok := impl.NetDo(n, deedOf(kind, place, 0))
					mustRefuseNet(t, name+", no such word", got, ok)
				}
			}
		}
	})
}

func TestPromise71ByCrashANodeKnowsItselfAloneAndAllElseStays(t *testing.T) {
	eachNet(t, func(name string, n impl.Net) {
		for node, who := range n.Nodes {
			x, ok := impl.NetDo(n, deedOf(impl.DeedCrash, node, 0))
			if who.Born == 20 {
				mustRefuseNet(t, name+", born too often", x, ok)
				continue
			}
			want := changed(n, func(n *impl.Net) {
				n.Nodes[node] = justBorn(node, who.Born+1, who.Beacon)
				n.Past[node] = append(n.Past[node], nil)
			})
			mustBeNet(t, name, x, ok, want)
		}
	})
}

func TestPromise71JustNetBornTimes(t *testing.T) {
	for node := range 5 {
		n := doNet(t, restNet(t, newNet(t, allLinked)), deedOf(impl.DeedHello, 0, 0), deedOf(impl.DeedTell, 4, 0))
		words := plain(n.Words)
		for born := 2; born <= 20; born++ {
			n = doNet(t, n, deedOf(impl.DeedCount, node, born), deedOf(impl.DeedCrash, node, 0))
			if n.Nodes[node].Born != born || len(n.Past[node]) != born+1 || n.Nodes[0].Beacon != 1 {
				t.Errorf("%d is born %d times: %+v", node, born, n.Nodes[node])
			}
		}
		mustBeAlike(t, "words on their way", n.Words, words)
		got, ok := impl.NetDo(n, deedOf(impl.DeedCrash, node, 0))
		mustRefuseNet(t, "once more", got, ok)
		doNet(t, n, deedOf(impl.DeedCrash, (node+1)%5, 0), deedOf(impl.DeedCount, node, 0))
	}
	for _, node := range []int{-1, 5, 6} {
		got, ok := impl.NetDo(newNet(t, chain), deedOf(impl.DeedCrash, node, 0))
		mustRefuseNet(t, "no node", got, ok)
	}
}

func TestPromise71WordsStillOnTheirWayAreHeardAsBefore(t *testing.T) {
	n := restNet(t, runNet(t, newNet(t, chain), countsOf(1, []int{4, 4})...))
	n = doNet(t, n, deedOf(impl.DeedTell, 1, 0), deedOf(impl.DeedHello, 1, 0), deedOf(impl.DeedHello, 0, 0))
	n = doNet(t, n, deedOf(impl.DeedCrash, 0, 0), deedOf(impl.DeedCrash, 1, 0), deedOf(impl.DeedCount, 1, 5))
	if len(n.Nodes[0].Known) != 1 || n.Nodes[0].Beacon != 1 || n.Nodes[0].Level != 0 {
		t.Errorf("the root is born anew: %+v", n.Nodes[0])
	}
	n = doNet(t, n, deedOf(impl.DeedTake, 0, 0))
	if e, _ := entryIn(n.Nodes[0].Known, 1); e.Born != 1 || e.Num != 2 {
		t.Errorf("the root knows %+v", e)
	}
	n = doNet(t, n, deedOf(impl.DeedTake, 0, 0), deedOf(impl.DeedTake, 0, 0), deedOf(impl.DeedTake, 0, 0))
	if x := n.Nodes[1]; x.Up != 0 || x.Level != 1 || x.Beacon != 1 || x.Born != 2 {
		t.Errorf("who was born anew hears the root: %+v", x)
	}
	n = doNet(t, n, deedOf(impl.DeedTell, 1, 0), deedOf(impl.DeedTake, 0, 0))
	if e, _ := entryIn(n.Nodes[0].Known, 1); e.Born != 2 || e.Num != 1 {
		t.Errorf("the root knows %+v", e)
	}
}

func TestPromise72ByBeaconOnlyTheRootsBeaconIsOneMore(t *testing.T) {
	eachNet(t, func(name string, n impl.Net) {
		x, ok := impl.NetDo(n, deedOf(impl.DeedBeacon, 0, 0))
		if n.Nodes[0].Beacon == 1000 {
			mustRefuseNet(t, name, x, ok)
			return
		}
		mustBeNet(t, name, x, ok, changed(n, func(n *impl.Net) { n.Nodes[0].Beacon++ }))
	})
	n := beaconNet(t, chain, 999)
	if n.Nodes[0].Beacon != 999 {
		t.Fatalf("the root's Beacon is %d", n.Nodes[0].Beacon)
	}
	n = doNet(t, n, deedOf(impl.DeedBeacon, 0, 0))
	if n.Nodes[0].Beacon != 1000 || !impl.NetOk(n) {
		t.Errorf("the root's Beacon is %d", n.Nodes[0].Beacon)
	}
	got, ok := impl.NetDo(n, deedOf(impl.DeedBeacon, 0, 0))
	mustRefuseNet(t, "one more than 1000", got, ok)
	got, ok = impl.NetDo(doNet(t, n, deedOf(impl.DeedCrash, 0, 0)), deedOf(impl.DeedBeacon, 0, 0))
	mustRefuseNet(t, "one more than 1000, born anew", got, ok)
}

func TestPromise73CutAndMendedOrMendedAndCutANetIsAsItWas(t *testing.T) {
	eachNet(t, func(name string, n impl.Net) {
		for one := range 5 {
			for other := range 5 {
				first, second := impl.DeedMend, impl.DeedCut
				if linkedIn(n, one, other) {
					first, second = second, first
				}
				if one == other {
					for _, kind := range []int{first, second} {
						got, ok := impl.NetDo(n, deedOf(kind, one, other))
						mustRefuseNet(t, name+", itself", got, ok)
					}
					continue
				}
				x := doNet(t, n, deedOf(first, one, other))
				if linkedIn(x, one, other) == linkedIn(n, one, other) || linkedIn(x, other, one) == linkedIn(n, one, other) {
					t.Errorf("%s: the link of %d and %d stays", name, one, other)
				}
				for _, back := range []impl.Deed{deedOf(second, one, other), deedOf(second, other, one)} {
					mustBeNet(t, name, doNet(t, x, back), true, n)
				}
				got, ok := impl.NetDo(n, deedOf(second, one, other))
				mustRefuseNet(t, name+", it is so", got, ok)
				got, ok = impl.NetDo(x, deedOf(first, other, one))
				mustRefuseNet(t, name+", it is so then", got, ok)
			}
		}
	})
}
