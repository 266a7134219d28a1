package tests

import (
	"fmt"
	"math"
	"math/rand/v2"
	"reflect"
	"slices"
	"strconv"
	"sync"
	"testing"

	"loop.example/inkling/impl"
)

// chain is linked 0 with 1, 1 with 2, 2 with 3, 3 with 4.
var chain = []int{0, 1, 1, 2, 2, 3, 3, 4}

// allLinked is each node linked with each other, once.
var allLinked = []int{0, 1, 0, 2, 0, 3, 0, 4, 1, 2, 1, 3, 1, 4, 2, 3, 2, 4, 3, 4}

// linkSets has the edges: no link, one, all, one given twice, and either way, and just 40 numbers; the root next to all, to one, and to none; nodes that are linked by others alone, and such that are not.
func linkSets() map[string][]int {
	return map[string][]int{
		"no link":            {},
		"one":                {0, 1},
		"one, the other way": {1, 0},
		"a link twice":       {2, 3, 2, 3},
		"a link either way":  {0, 4, 4, 0},
		"a chain":            chain,
		"a chain back":       {4, 3, 3, 2, 2, 1, 1, 0},
		"a chain in turns":   {0, 3, 3, 1, 1, 4, 4, 2},
		"a ring":             {0, 1, 1, 2, 2, 3, 3, 4, 4, 0},
		"the root in middle": {0, 1, 0, 2, 0, 3, 0, 4},
		"the last in middle": {4, 0, 4, 1, 4, 2, 4, 3},
		"cut in two":         {0, 1, 2, 3, 3, 4},
		"the root alone":     {1, 2, 2, 3, 3, 4, 4, 1},
		"all":                allLinked,
		"just 40 numbers":    slices.Concat(allLinked, allLinked),
		"40, of one link":    slices.Repeat([]int{3, 1}, 20),
	}
}

func deedOf(kind int, a int, b int) impl.Deed {
	return impl.Deed{Kind: kind, A: a, B: b}
}

// plain is a copy in memory of its own, without spare room; empty lists are nil.
func plain[T any](x T) T {
	return plainValue(reflect.ValueOf(x)).Interface().(T)
}

func plainValue(v reflect.Value) reflect.Value {
	same := reflect.New(v.Type()).Elem()
	switch {
	case v.Kind() == reflect.Struct:
		for i := range v.NumField() {
			same.Field(i).Set(plainValue(v.Field(i)))
		}
	case v.Kind() != reflect.Slice:
		same.Set(v)
	case v.Len() > 0:
		same.Set(reflect.MakeSlice(v.Type(), v.Len(), v.Len()))
		for i := range v.Len() {
			same.Index(i).Set(plainValue(v.Index(i)))
		}
	}
	return same
}

// difference is where two are not the same, and how; empty, if they are. The empty list and the nil list are the same.
func difference(where string, a reflect.Value, b reflect.Value) string {
	switch {
	case a.Kind() == reflect.Struct:
		for i := range a.NumField() {
			if text := difference(where+"."+a.Type().Field(i).Name, a.Field(i), b.Field(i)); text != "" {
				return text
			}
		}
	case a.Kind() == reflect.Slice && a.Len() == b.Len():
		for i := range a.Len() {
			if text := difference(where+"["+strconv.Itoa(i)+"]", a.Index(i), b.Index(i)); text != "" {
				return text
			}
		}
	case a.Kind() == reflect.Slice || !a.Equal(b):
		return fmt.Sprintf("%s is %+v, not %+v", where, a, b)
	}
	return ""
}

func isAlike[T any](a T, b T) bool {
	return difference("", reflect.ValueOf(a), reflect.ValueOf(b)) == ""
}

// mustBeAlike fails unless both are the same.
func mustBeAlike[T any](t *testing.T, what string, got T, want T) {
	t.Helper()
	if text := difference("", reflect.ValueOf(got), reflect.ValueOf(want)); text != "" {
		t.Fatalf("%s: %s", what, text)
	}
}

// mustBeNet fails unless a call answered just so, and true, and that is ok.
func mustBeNet(t *testing.T, what string, got impl.Net, ok bool, want impl.Net) {
	t.Helper()
	if !ok {
		t.Fatalf("%s is refused", what)
	}
	mustBeAlike(t, what, got, want)
	if !impl.NetOk(got) {
		t.Fatalf("%s: %+v is not ok", what, got)
	}
}

// mustRefuseNet fails unless a call answered nothing and false.
func mustRefuseNet(t *testing.T, what string, got impl.Net, ok bool) {
	t.Helper()
	if ok || !isAlike(got, impl.Net{}) {
		t.Fatalf("%s: %+v %v, not nothing and false", what, got, ok)
	}
}

// newNet makes a net where that is known to be possible.
func newNet(t *testing.T, links []int) impl.Net {
	t.Helper()
	n, ok := impl.NetNew(links)
	if !ok {
		t.Fatalf("NetNew(%v) is refused", links)
	}
	return n
}

// doNet does deeds where each is known to be possible.
func doNet(t *testing.T, n impl.Net, deeds ...impl.Deed) impl.Net {
	t.Helper()
	for _, d := range deeds {
		x, ok := impl.NetDo(n, d)
		if !ok {
			t.Fatalf("%+v is refused by %+v", d, n)
		}
		n = x
	}
	return n
}

// runNet does deeds, as many as there are, and leaves out what cannot be.
func runNet(t *testing.T, n impl.Net, deeds ...impl.Deed) impl.Net {
	t.Helper()
	for some := range slices.Chunk(deeds, 200) {
		x, ok := impl.NetRun(n, some)
		if !ok {
			t.Fatalf("NetRun of %d deeds is refused by %+v", len(some), n)
		}
		n = x
	}
	return n
}

// restNet lets a net rest where that is known to be possible.
func restNet(t *testing.T, n impl.Net) impl.Net {
	t.Helper()
	x, ok := impl.NetRest(n)
	if !ok {
		t.Fatalf("NetRest is refused by %+v", n)
	}
	return x
}

// rootSum is the sum of what the root knows, where the net is known to be ok.
func rootSum(t *testing.T, n impl.Net) impl.Sum {
	t.Helper()
	s, ok := impl.NetSum(n, 0)
	if !ok {
		t.Fatalf("NetSum of the root is refused by %+v", n)
	}
	return s
}

// countsOf are deeds by which a node counts that list.
func countsOf(node int, list []int) []impl.Deed {
	var deeds []impl.Deed
	for _, thing := range list {
		deeds = append(deeds, deedOf(impl.DeedCount, node, thing))
	}
	return deeds
}

// oftenDone is the same deed so many times.
func oftenDone(num int, d impl.Deed) []impl.Deed {
	return slices.Repeat([]impl.Deed{d}, num)
}

// countedNow is all that a node counted since it was born.
func countedNow(n impl.Net, node int) []int {
	return n.Past[node][n.Nodes[node].Born]
}

// entryIn is what is known of a node in a list; false, if nothing is.
func entryIn(list []impl.Entry, node int) (impl.Entry, bool) {
	for _, e := range list {
		if e.Node == node {
			return e, true
		}
	}
	return impl.Entry{}, false
}

// linkedIn says whether two are linked.
func linkedIn(n impl.Net, one int, other int) bool {
	return n.Links[one*5+other]
}

// reachOf is, without the program, which nodes are linked with the root: all ways over any others are tried.
func reachOf(links []bool) []int {
	var reached [5][5]bool
	for over := -1; over < 5; over++ {
		for from := range 5 {
			for to := range 5 {
				direct := from == to || links[from*5+to]
				reached[from][to] = reached[from][to] || direct || over >= 0 && reached[from][over] && reached[over][to]
			}
		}
	}
	var list []int
	for node := range 5 {
		if reached[0][node] {
			list = append(list, node)
		}
	}
	return list
}

// truths has sums of what was counted, by the text of what that is.
var truths sync.Map

// truthOf is SumOf; what was counted in one net is asked for again and again.
func truthOf(list []int) impl.Sum {
	key := ""
	for _, thing := range list {
		key += strconv.Itoa(thing) + " "
	}
	if s, ok := truths.Load(key); ok {
		return s.(impl.Sum)
	}
	s, _ := impl.SumOf(list)
	truths.Store(key, plain(s))
	return plain(s)
}

// entryOf is the true one of a node, of a Born and a Num.
func entryOf(n impl.Net, node int, born int, num int) impl.Entry {
	return impl.Entry{Node: node, Born: born, Num: num, Sum: truthOf(n.Past[node][born][:num])}
}

// isTrue says, without the program, whether an entry is.
func isTrue(n impl.Net, e impl.Entry) bool {
	if e.Node < 0 || e.Node > 4 || e.Born < 1 || e.Born > n.Nodes[e.Node].Born {
		return false
	}
	if e.Num < 0 || e.Num > len(n.Past[e.Node][e.Born]) {
		return false
	}
	return isAlike(e, entryOf(n, e.Node, e.Born, e.Num))
}

// areTrue says, without the program, whether entries are true, and by nodes, each once.
func areTrue(n impl.Net, list []impl.Entry) bool {
	for i, e := range list {
		if !isTrue(n, e) || i > 0 && list[i-1].Node >= e.Node {
			return false
		}
	}
	return true
}

// okNet says, without the program, whether a net is ok.
func okNet(n impl.Net) bool {
	if len(n.Nodes) != 5 || len(n.Past) != 5 || len(n.Links) != 25 || len(n.Words) > 24 {
		return false
	}
	for place, whole := range n.Links {
		if whole != n.Links[place%5*5+place/5] || whole && place%6 == 0 {
			return false
		}
	}
	for node, x := range n.Nodes {
		if x.Born < 1 || x.Born > 20 || len(n.Past[node]) != x.Born+1 || len(n.Past[node][0]) > 0 {
			return false
		}
		for _, list := range n.Past[node] {
			if len(list) > 100 || slices.ContainsFunc(list, func(thing int) bool { return thing < 0 || thing > 63 }) {
				return false
			}
		}
	}
	return okNodes(n) && okWords(n)
}

func okNodes(n impl.Net) bool {
	top := n.Nodes[0]
	if top.Level != 0 || top.Up != -1 || top.Beacon > 1000 {
		return false
	}
	for node, x := range n.Nodes {
		own, has := entryIn(x.Known, node)
		if !areTrue(n, x.Known) || !has || own.Born != x.Born || own.Num != len(countedNow(n, node)) {
			return false
		}
		if x.Beacon < 0 || x.Beacon > top.Beacon {
			return false
		}
		if node == 0 {
			continue
		}
		up := x.Level >= 1 && x.Level <= 4 && x.Up >= 0 && x.Up <= 4 && x.Up != node
		if !up && (x.Level != 5 || x.Up != -1) {
			return false
		}
	}
	return true
}

func okWords(n impl.Net) bool {
	for _, w := range n.Words {
		if w.From < 0 || w.From > 4 || w.To < 0 || w.To > 4 || w.From == w.To {
			return false
		}
		hello := w.Kind == 1 && w.Beacon >= 0 && w.Beacon <= n.Nodes[0].Beacon && w.Level >= 0 && w.Level <= 4 && len(w.Known) == 0
		tell := w.Kind == 2 && w.Beacon == 0 && w.Level == 0 && areTrue(n, w.Known)
		if !hello && !tell {
			return false
		}
	}
	return true
}

// doneNet is, without the program, what NetDo has to answer at a net that is ok.
func doneNet(n impl.Net, d impl.Deed) (impl.Net, bool) {
	x := plain(n)
	isNode, isWord := d.A >= 0 && d.A < 5, d.A >= 0 && d.A < len(n.Words)
	areTwo := isNode && d.B >= 0 && d.B < 5 && d.A != d.B
	switch {
	case d.Kind == 1 && isNode && d.B >= 0 && d.B < 64 && len(countedNow(x, d.A)) < 100:
		born := x.Nodes[d.A].Born
		own, _ := entryIn(x.Nodes[d.A].Known, d.A)
		x.Past[d.A][born] = append(x.Past[d.A][born], d.B)
		x.Nodes[d.A].Known = knownWith(x.Nodes[d.A].Known, impl.Entry{Node: d.A, Born: born, Num: own.Num + 1, Sum: addedSum(own.Sum, d.B)})
	case d.Kind == 2 && isNode && x.Nodes[d.A].Level < 5:
		for other := range 5 {
			x = sentNet(x, impl.Word{Kind: 1, From: d.A, To: other, Beacon: x.Nodes[d.A].Beacon, Level: x.Nodes[d.A].Level})
		}
		return netIf(x, len(x.Words) > len(n.Words))
	case d.Kind == 3 && isNode && x.Nodes[d.A].Up != -1:
		x = sentNet(x, impl.Word{Kind: 2, From: d.A, To: x.Nodes[d.A].Up, Known: x.Nodes[d.A].Known})
		return netIf(x, len(x.Words) > len(n.Words))
	case d.Kind == 4 && isWord:
		return lostNet(heardNet(x, n.Words[d.A]), d.A), true
	case d.Kind == 5 && isWord:
		return heardNet(x, n.Words[d.A]), true
	case d.Kind == 6 && isWord:
		return lostNet(x, d.A), true
	case d.Kind == 7 && isNode && x.Nodes[d.A].Born < 20:
		x.Past[d.A] = append(x.Past[d.A], nil)
		x.Nodes[d.A] = justBorn(d.A, x.Nodes[d.A].Born+1, x.Nodes[0].Beacon)
	case d.Kind == 8 && x.Nodes[0].Beacon < 1000:
		x.Nodes[0].Beacon++
	case (d.Kind == 9 || d.Kind == 10) && areTwo && linkedIn(x, d.A, d.B) == (d.Kind == 9):
		x.Links[d.A*5+d.B] = d.Kind == 10
		x.Links[d.B*5+d.A] = d.Kind == 10
	default:
		return impl.Net{}, false
	}
	return x, true
}

func netIf(n impl.Net, can bool) (impl.Net, bool) {
	if !can {
		return impl.Net{}, false
	}
	return n, true
}

// justBorn is, without the program, a node that is born just now; of the beacon only the root knows.
func justBorn(node int, born int, beacon int) impl.Node {
	x := impl.Node{Born: born, Known: []impl.Entry{{Node: node, Born: born, Sum: noSum()}}, Level: 5, Up: -1}
	if node == 0 {
		x.Level, x.Beacon = 0, beacon
	}
	return x
}

// knownWith has an entry in place of the one of the same node; all are by nodes.
func knownWith(list []impl.Entry, e impl.Entry) []impl.Entry {
	others := slices.DeleteFunc(slices.Clone(list), func(other impl.Entry) bool { return other.Node == e.Node })
	return slices.SortedFunc(slices.Values(append(others, e)), func(a impl.Entry, b impl.Entry) int { return a.Node - b.Node })
}

func sentNet(n impl.Net, w impl.Word) impl.Net {
	if linkedIn(n, w.From, w.To) && len(n.Words) < 24 {
		n.Words = append(n.Words, w)
	}
	return n
}

func lostNet(n impl.Net, place int) impl.Net {
	n.Words = slices.Concat(n.Words[:place], n.Words[place+1:])
	return n
}

func heardNet(n impl.Net, w impl.Word) impl.Net {
	who := &n.Nodes[w.To]
	for _, e := range w.Known {
		old, has := entryIn(who.Known, e.Node)
		if e.Node != w.To && (!has || e.Born > old.Born || e.Born == old.Born && e.Num > old.Num) {
			who.Known = knownWith(who.Known, e)
		}
	}
	if w.Kind == 2 || w.To == 0 {
		return n
	}
	if w.Beacon > who.Beacon && w.Level == 4 {
		who.Beacon, who.Level, who.Up = w.Beacon, 5, -1
	} else if w.Beacon > who.Beacon || w.Beacon == who.Beacon && w.Level < who.Level-1 {
		who.Beacon, who.Level, who.Up = w.Beacon, w.Level+1, w.From
	}
	return n
}

// restedNet is, without the program, what NetRest has to answer where it can be.
func restedNet(n impl.Net) impl.Net {
	n = quietNet(n)
	n.Nodes[0].Beacon++
	for _, kind := range []int{2, 3} {
		for turn := range 25 {
			if x, ok := doneNet(n, deedOf(kind, turn%5, 0)); ok {
				n = quietNet(x)
			}
		}
	}
	return n
}

// quietNet has all words taken, the oldest first.
func quietNet(n impl.Net) impl.Net {
	n = plain(n)
	for len(n.Words) > 0 {
		n = lostNet(heardNet(n, n.Words[0]), 0)
	}
	return n
}

// someDeed is one of all kinds, mostly one that can be; what is counted, and told, is more often than the others.
func someDeed(random *rand.Rand, words int) impl.Deed {
	kinds := []int{1, 1, 1, 1, 1, 1, 2, 2, 2, 3, 3, 3, 3, 4, 4, 4, 4, 4, 4, 5, 6, 7, 8, 9, 10, 10}
	kind := kinds[random.IntN(len(kinds))]
	a, b := random.IntN(5), random.IntN(5)
	if kind >= 4 && kind <= 6 {
		a = random.IntN(words + 1)
	}
	if kind == 1 {
		b = random.IntN(64)
	}
	return deedOf(kind, a, b)
}

func someDeeds(random *rand.Rand, num int, words int) []impl.Deed {
	var deeds []impl.Deed
	for range num {
		deeds = append(deeds, someDeed(random, words))
	}
	return deeds
}

// richNet has all that a net may have: nodes that are born anew, and known so and as before, words of both kinds, some of them older, links that were cut, and nodes that have heard of the root by different beacons.
func richNet(t *testing.T) impl.Net {
	t.Helper()
	n := runNet(t, newNet(t, chain), slices.Concat(countsOf(0, []int{5, 6}), countsOf(1, []int{7, 7, 8}), countsOf(2, inTurn(9, 7)), countsOf(3, []int{63, 0}))...)
	n = restNet(t, n)
	n = doNet(t, n, deedOf(impl.DeedTell, 2, 0), deedOf(impl.DeedCrash, 2, 0), deedOf(impl.DeedCount, 2, 40), deedOf(impl.DeedCount, 2, 41), deedOf(impl.DeedBeacon, 0, 0), deedOf(impl.DeedHello, 0, 0), deedOf(impl.DeedTake, 1, 0), deedOf(impl.DeedHello, 1, 0), deedOf(impl.DeedTwice, 2, 0), deedOf(impl.DeedTell, 2, 0), deedOf(impl.DeedTell, 1, 0), deedOf(impl.DeedTake, 3, 0), deedOf(impl.DeedCount, 1, 9), deedOf(impl.DeedTell, 1, 0), deedOf(impl.DeedTell, 3, 0), deedOf(impl.DeedCut, 3, 2), deedOf(impl.DeedMend, 0, 4))
	return doNet(t, n, deedOf(impl.DeedHello, 0, 0), deedOf(impl.DeedCrash, 3, 0), deedOf(impl.DeedBeacon, 0, 0), deedOf(impl.DeedCount, 0, 1))
}

// fullNet has all five nodes linked, each with 100 things, told to all by NetRest, and NetWords words on their way.
func fullNet(t *testing.T) impl.Net {
	t.Helper()
	return wordsNet(t, 100)
}

// wordsNet has all five nodes linked, each with so many things, and NetWords words of both kinds on their way.
func wordsNet(t *testing.T, num int) impl.Net {
	t.Helper()
	var deeds []impl.Deed
	for node := range 5 {
		deeds = append(deeds, countsOf(node, inTurn(num, 2*node+1))...)
	}
	n := restNet(t, runNet(t, newNet(t, allLinked), deeds...))
	for node := range 16 {
		n = doNet(t, n, deedOf(impl.DeedTell, 1+node%4, 0))
	}
	return doNet(t, n, deedOf(impl.DeedHello, 3, 0), deedOf(impl.DeedBeacon, 0, 0), deedOf(impl.DeedHello, 0, 0))
}

// bornNet has the node 2 and the root just NetBorn times born, with words of both from before.
func bornNet(t *testing.T) impl.Net {
	t.Helper()
	n := restNet(t, runNet(t, newNet(t, chain), countsOf(2, []int{1, 2, 3})...))
	n = doNet(t, n, deedOf(impl.DeedTell, 2, 0), deedOf(impl.DeedHello, 0, 0))
	for born := 2; born <= 20; born++ {
		n = doNet(t, n, deedOf(impl.DeedCrash, 2, 0), deedOf(impl.DeedCrash, 0, 0), deedOf(impl.DeedCount, 2, born), deedOf(impl.DeedCount, 0, 63-born))
	}
	return n
}

// beaconNet has that beacon of the root.
func beaconNet(t *testing.T, links []int, beacon int) impl.Net {
	t.Helper()
	return runNet(t, newNet(t, links), oftenDone(beacon, deedOf(impl.DeedBeacon, 0, 0))...)
}

// tunedNet has, as no deeds bring it about, Levels and Ups that are only just ok, and words of all edges.
func tunedNet(t *testing.T) impl.Net {
	t.Helper()
	n := plain(richNet(t))
	n.Nodes[0].Beacon = 1000
	n.Nodes[1].Beacon, n.Nodes[1].Level, n.Nodes[1].Up = 0, 4, 4
	n.Nodes[2].Beacon, n.Nodes[2].Level, n.Nodes[2].Up = 1000, 1, 4
	n.Nodes[3].Beacon, n.Nodes[3].Level, n.Nodes[3].Up = 999, 5, -1
	n.Nodes[4].Beacon, n.Nodes[4].Level, n.Nodes[4].Up = 1000, 4, 0
	n.Words = []impl.Word{{Kind: 2, From: 4, To: 0}, {Kind: 1, From: 0, To: 4, Beacon: 1000, Level: 4}, {Kind: 1, From: 4, To: 0}}
	for to := range 5 {
		for _, hello := range [][2]int{{1000, 0}, {1000, 2}, {999, 4}, {0, 3}} {
			if from := (to + hello[1] + 1) % 5; from != to {
				n.Words = append(n.Words, impl.Word{Kind: 1, From: from, To: to, Beacon: hello[0], Level: hello[1]})
			}
		}
	}
	return n
}

// madeNets has, by names, what is made once for all tests.
var madeNets = map[string]impl.Net{}

// sampleNets has the edges, and nets in which many things have happened, always the same; all are in memory of their own.
func sampleNets(t *testing.T) map[string]impl.Net {
	t.Helper()
	if len(madeNets) == 0 {
		makeNets(t, madeNets)
	}
	copies := map[string]impl.Net{}
	for name, n := range madeNets {
		copies[name] = plain(n)
	}
	return copies
}

// sampleNet is one of the sample.
func sampleNet(t *testing.T, name string) impl.Net {
	t.Helper()
	n, has := sampleNets(t)[name]
	if !has {
		t.Fatalf("there is no net %q", name)
	}
	return n
}

func makeNets(t *testing.T, nets map[string]impl.Net) {
	t.Helper()
	random := rand.New(rand.NewPCG(19, 20))
	names := []string{}
	for name := range linkSets() {
		names = append(names, name)
	}
	slices.Sort(names)
	for i, name := range names {
		fresh := newNet(t, linkSets()[name])
		if i%3 == 0 {
			nets[name] = fresh
		}
		nets[name+", walked"] = runNet(t, fresh, someDeeds(random, 60+i*20, 4)...)
	}
	nets["rich"] = richNet(t)
	full := wordsNet(t, 4)
	nets["full of words"] = full
	nets["one word less than full"] = doNet(t, full, deedOf(impl.DeedLose, 3, 0))
	nets["two words less than full"] = doNet(t, full, deedOf(impl.DeedLose, 23, 0), deedOf(impl.DeedLose, 0, 0))
	nets["born anew"] = bornNet(t)
	nets["beacon 999"] = beaconNet(t, chain, 999)
	nets["beacon 1000"] = restNet(t, runNet(t, beaconNet(t, []int{0, 1, 2, 3}, 999), countsOf(1, []int{1, 2})...))
	nets["tuned"] = tunedNet(t)
	nets["99 counted"] = runNet(t, newNet(t, chain), slices.Concat(countsOf(0, inTurn(99, 1)), countsOf(4, inTurn(99, 3)))...)
}

// eachNet calls for each net of the sample, in the order of names.
func eachNet(t *testing.T, check func(name string, n impl.Net)) {
	t.Helper()
	nets := sampleNets(t)
	names := []string{}
	for name := range nets {
		names = append(names, name)
	}
	slices.Sort(names)
	for _, name := range names {
		check(name, nets[name])
	}
}

// allDeeds are deeds of each kind, and of none, with all that is there, and with what is not.
func allDeeds(n impl.Net) []impl.Deed {
	deeds := []impl.Deed{{}, deedOf(-1, 0, 1), deedOf(11, 0, 1), deedOf(math.MaxInt, 0, 1), deedOf(math.MinInt, 0, 1), deedOf(impl.DeedBeacon, 0, 0)}
	for a := -1; a <= 5; a++ {
		for b := -1; b <= 5; b++ {
			deeds = append(deeds, deedOf(impl.DeedCut, a, b), deedOf(impl.DeedMend, a, b))
		}
	}
	for _, a := range []int{-1, 0, 1, 2, 3, 4, 5, math.MinInt, math.MaxInt} {
		for _, kind := range []int{impl.DeedHello, impl.DeedTell, impl.DeedCrash} {
			deeds = append(deeds, deedOf(kind, a, 0))
		}
		deeds = append(deeds, deedOf(impl.DeedCount, a, 0), deedOf(impl.DeedCount, a, 63))
		deeds = append(deeds, deedOf(impl.DeedCount, 1, a*13), deedOf(impl.DeedCut, a, 1), deedOf(impl.DeedMend, 1, a))
	}
	for _, kind := range []int{impl.DeedTake, impl.DeedTwice, impl.DeedLose} {
		for place := -1; place <= len(n.Words)+1; place++ {
			deeds = append(deeds, deedOf(kind, place, 0))
		}
		deeds = append(deeds, deedOf(kind, math.MinInt, 0), deedOf(kind, math.MaxInt, 0))
	}
	return deeds
}

// possibleDeeds are those of all deeds that can be.
func possibleDeeds(n impl.Net) []impl.Deed {
	return slices.DeleteFunc(allDeeds(n), func(d impl.Deed) bool {
		_, can := doneNet(n, d)
		return !can
	})
}
