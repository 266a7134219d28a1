package tests

import (
	"cmp"
	"reflect"
	"slices"
	"testing"

	"loop.example/inkling/impl"
)

// roomyAll is the same with spare room behind each list in it, and marks there.
func roomyAll[T any](x T) T {
	return roomyValue(reflect.ValueOf(x)).Interface().(T)
}

func roomyValue(v reflect.Value) reflect.Value {
	same := reflect.New(v.Type()).Elem()
	switch v.Kind() {
	case reflect.Struct:
		for i := range v.NumField() {
			same.Field(i).Set(roomyValue(v.Field(i)))
		}
	case reflect.Slice:
		wide := reflect.MakeSlice(v.Type(), v.Len()+3, v.Len()+3)
		for i := range wide.Len() {
			if i < v.Len() {
				wide.Index(i).Set(roomyValue(v.Index(i)))
			} else {
				setMark(wide.Index(i))
			}
		}
		same.Set(wide.Slice(0, v.Len()))
	default:
		same.Set(v)
	}
	return same
}

func setMark(v reflect.Value) {
	switch v.Kind() {
	case reflect.Struct:
		for i := range v.NumField() {
			setMark(v.Field(i))
		}
	case reflect.Bool:
		v.SetBool(true)
	case reflect.Int:
		v.SetInt(mark)
	}
}

// wholeValue is a copy of all that can be reached, spare room included.
func wholeValue(v reflect.Value) reflect.Value {
	same := reflect.New(v.Type()).Elem()
	switch v.Kind() {
	case reflect.Struct:
		for i := range v.NumField() {
			same.Field(i).Set(wholeValue(v.Field(i)))
		}
	case reflect.Slice:
		wide := reflect.MakeSlice(v.Type(), v.Cap(), v.Cap())
		for i := range v.Cap() {
			wide.Index(i).Set(wholeValue(v.Slice(0, v.Cap()).Index(i)))
		}
		same.Set(wide)
	default:
		same.Set(v)
	}
	return same
}

// place is from where to where in memory a list stands, spare room included.
type place struct {
	first  uintptr
	behind uintptr
	name   string
}

// placesOf are those of all lists that can be reached, also from spare room.
func placesOf(name string, v reflect.Value) []place {
	var places []place
	switch v.Kind() {
	case reflect.Struct:
		for i := range v.NumField() {
			places = append(places, placesOf(name+"."+v.Type().Field(i).Name, v.Field(i))...)
		}
	case reflect.Slice:
		if v.Cap() > 0 {
			places = append(places, place{v.Pointer(), v.Pointer() + uintptr(v.Cap())*v.Type().Elem().Size(), name})
		}
		if kind := v.Type().Elem().Kind(); kind == reflect.Slice || kind == reflect.Struct {
			for i := range v.Cap() {
				places = append(places, placesOf(name+"[]", v.Slice(0, v.Cap()).Index(i))...)
			}
		}
	}
	return places
}

// mustHaveOwnPlaces fails if two lists of an answer share memory, or one of them shares it with one of the others; others may share among each other.
func mustHaveOwnPlaces(t *testing.T, what string, answer any, others ...any) {
	t.Helper()
	own := placesOf("answer", reflect.ValueOf(answer))
	slices.SortFunc(own, func(a place, b place) int { return cmp.Compare(a.first, b.first) })
	for i := 1; i < len(own); i++ {
		if own[i].first < own[i-1].behind {
			t.Fatalf("%s: %s and %s share memory", what, own[i-1].name, own[i].name)
		}
	}
	for _, other := range others {
		for _, p := range placesOf("argument", reflect.ValueOf(other)) {
			i, _ := slices.BinarySearchFunc(own, p.first, func(a place, first uintptr) int { return cmp.Compare(a.behind, first+1) })
			if i < len(own) && own[i].first < p.behind {
				t.Fatalf("%s: %s shares memory with %s", what, own[i].name, p.name)
			}
		}
	}
}

// mustLeaveAll fails if a call writes into one of those, or behind an end of theirs.
func mustLeaveAll(t *testing.T, what string, call func(), args ...any) {
	t.Helper()
	var before []reflect.Value
	for _, arg := range args {
		before = append(before, wholeValue(reflect.ValueOf(arg)))
	}
	call()
	for i, arg := range args {
		if text := difference("it", wholeValue(reflect.ValueOf(arg)), before[i]); text != "" {
			t.Fatalf("%s: an argument is written into: %s", what, text)
		}
	}
}

// The checks themselves have to see what is shared, and what is written.
func TestChecksOfMemorySeeWhatIsShared(t *testing.T) {
	n := roomyAll(richNet(t))
	for name, other := range map[string]any{
		"all":           n,
		"a list behind": n.Past[2][1][4:6],
		"spare room":    n.Past[2][1][9:12][:0],
		"a deep list":   n.Nodes[0].Known[2].Sum.Rank.Knots[1:2],
	} {
		seen := false
		for _, p := range placesOf("", reflect.ValueOf(other)) {
			for _, own := range placesOf("", reflect.ValueOf(n)) {
				seen = seen || p.first < own.behind && own.first < p.behind
			}
		}
		if !seen {
			t.Errorf("%s: it is not seen", name)
		}
	}
	if len(placesOf("", reflect.ValueOf(plain(n)))) < 100 {
		t.Error("there are too few lists")
	}
	before := wholeValue(reflect.ValueOf(n))
	n.Words[1].Known = append(n.Words[1].Known, impl.Entry{})
	n.Nodes[0].Known[2].Sum.Few.Kept = append(n.Nodes[0].Known[2].Sum.Few.Kept, 5)[:6]
	if difference("", wholeValue(reflect.ValueOf(n)), before) == "" {
		t.Error("what is written behind an end is not seen")
	}
}

func TestNetNewHasItsOwnMemory(t *testing.T) {
	for name, sample := range linkSets() {
		for _, bad := range [][]int{nil, {0}, {2, 2}, {0, 5}} {
			links := roomyAll(slices.Concat(sample, bad))
			var n impl.Net
			mustLeaveAll(t, name, func() { n, _ = impl.NetNew(links) }, links)
			mustHaveOwnPlaces(t, name, n, links, newNet(t, sample))
		}
	}
}

func TestNetDoHasItsOwnMemory(t *testing.T) {
	for _, name := range []string{"rich", "full of words", "tuned", "born anew", "one word less than full", "a ring, walked"} {
		sample := sampleNet(t, name)
		for _, d := range append(possibleDeeds(sample), allDeeds(sample)[:8]...) {
			n := roomyAll(sample)
			var done, ran impl.Net
			deeds := roomyAll([]impl.Deed{d, d, deedOf(impl.DeedTell, 1, 0)})
			mustLeaveAll(t, name, func() {
				done, _ = impl.NetDo(n, d)
				ran, _ = impl.NetRun(n, deeds)
			}, n, deeds)
			mustHaveOwnPlaces(t, name+", NetDo", done, n, ran)
			mustHaveOwnPlaces(t, name+", NetRun", ran, n, done)
		}
	}
}

// Words that are told, heard twice and told on are of what others know: each has to have its own.
func TestWhatIsToldHasItsOwnMemory(t *testing.T) {
	n := restNet(t, runNet(t, newNet(t, chain), slices.Concat(countsOf(2, []int{1, 2}), countsOf(3, []int{3}))...))
	d := deedOf
	deeds := []impl.Deed{d(impl.DeedCrash, 1, 0), d(impl.DeedHello, 0, 0), d(impl.DeedTake, 0, 0), d(impl.DeedTell, 3, 0), d(impl.DeedTell, 2, 0), d(impl.DeedTell, 2, 0), d(impl.DeedTwice, 1, 0), d(impl.DeedTwice, 1, 0), d(impl.DeedTell, 1, 0), d(impl.DeedTell, 1, 0), d(impl.DeedTwice, 3, 0), d(impl.DeedCount, 2, 7), d(impl.DeedTell, 2, 0), d(impl.DeedTwice, 5, 0)}
	x := roomyAll(n)
	for i := range len(deeds) + 1 {
		var ran impl.Net
		mustLeaveAll(t, "NetRun", func() { ran, _ = impl.NetRun(x, deeds[:i]) }, x)
		mustHaveOwnPlaces(t, "NetRun", ran, x)
	}
	for _, one := range deeds {
		next := doNet(t, x, one)
		mustHaveOwnPlaces(t, "NetDo", next, x)
		x = next
	}
	if len(x.Words) != 6 || len(x.Nodes[1].Known) != 4 {
		t.Errorf("there are %d words, and %d is known", len(x.Words), len(x.Nodes[1].Known))
	}
}

func TestNetRunHasItsOwnMemory(t *testing.T) {
	eachNet(t, func(name string, sample impl.Net) {
		n := roomyAll(sample)
		for _, deeds := range [][]impl.Deed{nil, oftenDone(3, impl.Deed{}), oftenDone(201, deedOf(impl.DeedHello, 0, 0)), countsOf(3, inTurn(20, 3))} {
			deeds = roomyAll(deeds)
			var ran impl.Net
			mustLeaveAll(t, name, func() { ran, _ = impl.NetRun(n, deeds) }, n, deeds)
			mustHaveOwnPlaces(t, name, ran, n)
		}
	})
}

func TestNetRestHasItsOwnMemory(t *testing.T) {
	eachNet(t, func(name string, sample impl.Net) {
		n := roomyAll(sample)
		var rested impl.Net
		mustLeaveAll(t, name, func() { rested, _ = impl.NetRest(n) }, n)
		mustHaveOwnPlaces(t, name, rested, n)
	})
}

func TestWhatIsAskedOfANetHasItsOwnMemory(t *testing.T) {
	check := func(name string, sample impl.Net) {
		n := roomyAll(sample)
		for node := -1; node <= 5; node++ {
			var known []impl.Entry
			var sum impl.Sum
			var list, reach []int
			mustLeaveAll(t, name, func() {
				impl.NetOk(n)
				known = impl.NetKnown(n, node)
				sum, _ = impl.NetSum(n, node)
				reach = impl.NetReach(n)
			}, n)
			asked := roomyAll(append(plain(known), impl.Entry{Node: 3, Born: 1}, impl.Entry{Node: -1}))
			mustLeaveAll(t, name, func() { list = impl.NetList(n, asked) }, n, asked)
			mustHaveOwnPlaces(t, name+", NetKnown", known, n)
			mustHaveOwnPlaces(t, name+", NetSum", sum, n, known)
			mustHaveOwnPlaces(t, name+", NetList", list, n, asked)
			mustHaveOwnPlaces(t, name+", NetReach", reach, n)
			mustHaveOwnPlaces(t, name+", NetKnown once more", impl.NetKnown(n, node), n, known)
		}
	}
	eachNet(t, check)
	check("full", fullNet(t))
}

func TestBrokenNetsAreLeft(t *testing.T) {
	for name, broken := range brokenNets(t) {
		n := roomyAll(broken)
		mustLeaveAll(t, name, func() {
			impl.NetOk(n)
			impl.NetDo(n, deedOf(impl.DeedCount, 1, 3))
			impl.NetRun(n, oftenDone(2, deedOf(impl.DeedHello, 0, 0)))
			impl.NetRest(n)
			impl.NetReach(n)
			impl.NetKnown(n, 1)
			impl.NetSum(n, 1)
			impl.NetList(n, []impl.Entry{{Node: 1, Born: 1, Num: 1}})
		}, n)
	}
}

// An argument may have one list in many places: it is read as many, and the answer has each for itself.
func TestListsOfANetMayShareMemory(t *testing.T) {
	n := restNet(t, runNet(t, newNet(t, allLinked), countsOf(2, []int{9, 9})...))
	told := n.Nodes[0].Known
	for node := 1; node < 5; node++ {
		n.Nodes[node].Known = told
	}
	n.Words = slices.Repeat([]impl.Word{{Kind: impl.WordTell, From: 1, To: 0, Known: told}}, 6)
	n.Past[0][1], n.Past[1][1], n.Past[3][1] = n.Past[2][1][:0], n.Past[2][1][:0], n.Past[2][1][1:1]
	good := plain(n)
	for _, d := range []impl.Deed{deedOf(impl.DeedCount, 1, 5), deedOf(impl.DeedCount, 0, 6), deedOf(impl.DeedTake, 2, 0), deedOf(impl.DeedCrash, 3, 0)} {
		want, _ := doneNet(good, d)
		x, ok := impl.NetDo(n, d)
		mustBeNet(t, "NetDo", x, ok, want)
		mustHaveOwnPlaces(t, "NetDo", x, n)
	}
	mustBeAlike(t, "the argument", n, good)
	x := restNet(t, n)
	mustBeNet(t, "NetRest", x, true, restedNet(good))
	mustHaveOwnPlaces(t, "NetRest", x, n)
}
