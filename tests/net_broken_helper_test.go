package tests

import (
	"math"
	"math/rand/v2"
	"reflect"
	"slices"
	"testing"

	"loop.example/inkling/impl"
)

// changed is a net after a change, in memory of its own.
func changed(n impl.Net, change func(n *impl.Net)) impl.Net {
	n = plain(n)
	change(&n)
	return n
}

// brokenNets are all not ok, each for one reason alone where that is possible.
func brokenNets(t *testing.T) map[string]impl.Net {
	t.Helper()
	rich, full, born := richNet(t), fullNet(t), bornNet(t)
	list := map[string]impl.Net{"nothing": {}}
	for name, change := range brokenParts() {
		list[name] = changed(rich, change)
	}
	for name, change := range brokenPasts() {
		list["Past: "+name] = changed(rich, change)
	}
	for name, change := range brokenEntries() {
		// The node 2 is known by the root, just as it was before it was born anew, and by the first word.
		list["known: "+name] = changed(rich, func(n *impl.Net) { n.Nodes[0].Known = change(n.Nodes[0].Known) })
		list["told: "+name] = changed(rich, func(n *impl.Net) {
			n.Words[3].Known = change(n.Words[3].Known)
		})
	}
	for name, change := range brokenKnowns() {
		list["known: "+name] = changed(rich, change)
	}
	for name, change := range brokenHearings() {
		list["heard: "+name] = changed(rich, change)
	}
	for name, change := range brokenWords() {
		list["word: "+name] = changed(rich, change)
	}
	for node := range 5 {
		list["born too often"+ofAll(node)] = changed(born, func(n *impl.Net) { bornOnceMore(n, node) })
		list["101 things"+ofAll(node)] = changed(full, func(n *impl.Net) {
			n.Past[node][1] = append(n.Past[node][1], 9)
			x := entryOf(*n, node, 1, 101)
			n.Nodes[node].Known = knownWith(n.Nodes[node].Known, x)
		})
	}
	list["101 things before it was born anew"] = changed(doNet(t, full, deedOf(impl.DeedCrash, 2, 0)), func(n *impl.Net) {
		n.Past[2][1] = append(n.Past[2][1], 9)
	})
	// Nobody knows of the node 4, so that all that is not as the chapter asks is its Born.
	list["Born 0, and it knows nothing"] = changed(newNet(t, chain), func(n *impl.Net) {
		n.Nodes[4].Born, n.Past[4], n.Nodes[4].Known = 0, n.Past[4][:1], nil
	})
	list["a word too many"] = changed(full, func(n *impl.Net) { n.Words = append(n.Words, n.Words[23]) })
	list["far too many words"] = changed(full, func(n *impl.Net) { n.Words = slices.Repeat(n.Words, 5) })
	return list
}

// bornOnceMore lets a node be born until it is that 21 times.
func bornOnceMore(n *impl.Net, node int) {
	n.Past[node] = append(n.Past[node], make([][]int, 22-len(n.Past[node]))...)
	n.Nodes[node] = justBorn(node, 21, n.Nodes[0].Beacon)
}

func brokenParts() map[string]func(n *impl.Net) {
	return map[string]func(n *impl.Net){
		"no nodes":                 func(n *impl.Net) { n.Nodes = nil },
		"no nodes, and no words":   func(n *impl.Net) { n.Nodes, n.Words = nil, nil },
		"a node too few":           func(n *impl.Net) { n.Nodes = n.Nodes[:4] },
		"a node too few, and Past": func(n *impl.Net) { n.Nodes, n.Past = n.Nodes[:4], n.Past[:4] },
		"a node too many":          func(n *impl.Net) { n.Nodes = append(n.Nodes, n.Nodes[4]) },
		"a node too many, and Past": func(n *impl.Net) {
			n.Nodes, n.Past = append(n.Nodes, justBorn(5, 1, 0)), append(n.Past, [][]int{nil, nil})
		},
		"no Past":                  func(n *impl.Net) { n.Past = nil },
		"a Past too few":           func(n *impl.Net) { n.Past = n.Past[:4] },
		"a Past too many":          func(n *impl.Net) { n.Past = append(n.Past, [][]int{nil, nil}) },
		"no links":                 func(n *impl.Net) { n.Links = nil },
		"a link too few":           func(n *impl.Net) { n.Links = n.Links[:24] },
		"a link too many":          func(n *impl.Net) { n.Links = append(n.Links, false) },
		"links of a node too many": func(n *impl.Net) { n.Links = append(n.Links, make([]bool, 11)...) },
		"the root linked with itself": func(n *impl.Net) {
			n.Links[0] = true
		},
		"the last one linked with itself": func(n *impl.Net) { n.Links[24] = true },
		"the middle linked with itself":   func(n *impl.Net) { n.Links[12] = true },
		"whole just from 0 to 1":          func(n *impl.Net) { n.Links[5] = false },
		"whole just from 1 to 0":          func(n *impl.Net) { n.Links[1] = false },
		"whole just from 0 to 3":          func(n *impl.Net) { n.Links[3] = true },
		"whole just from 3 to 0":          func(n *impl.Net) { n.Links[15] = true },
		"whole just from 1 to 4":          func(n *impl.Net) { n.Links[9] = true },
		"whole just from 4 to 1":          func(n *impl.Net) { n.Links[21] = true },
	}
}

func brokenPasts() map[string]func(n *impl.Net) {
	return map[string]func(n *impl.Net){
		"none of one":                       func(n *impl.Net) { n.Past[4] = nil },
		"not of Born":                       func(n *impl.Net) { n.Past[4] = n.Past[4][:1] },
		"of one Born too many":              func(n *impl.Net) { n.Past[4] = append(n.Past[4], nil) },
		"of one Born too few":               func(n *impl.Net) { n.Past[2] = n.Past[2][:2] },
		"some of Born 0":                    func(n *impl.Net) { n.Past[4][0] = []int{5} },
		"some of Born 0, root":              func(n *impl.Net) { n.Past[0][0] = []int{0} },
		"-1, once":                          func(n *impl.Net) { n.Past[3][1] = append(n.Past[3][1], -1) },
		"64, once":                          func(n *impl.Net) { n.Past[3][1] = append(n.Past[3][1], 64) },
		"-1, ahead":                         func(n *impl.Net) { n.Past[2][1] = slices.Insert(n.Past[2][1], 9, -1) },
		"no thing, and nobody knows of it":  func(n *impl.Net) { n.Past[2][1] = append(n.Past[2][1], 5, math.MaxInt, 5) },
		"below all, and nobody knows of it": func(n *impl.Net) { n.Past[2][1] = append(n.Past[2][1], math.MinInt) },
		"Born 0, and none of Born":          func(n *impl.Net) { n.Nodes[4].Born, n.Past[4] = 0, n.Past[4][:1] },
		"Born -1":                           func(n *impl.Net) { n.Nodes[4].Born, n.Past[4] = -1, nil },
		"Born as small as can be":           func(n *impl.Net) { n.Nodes[4].Born = math.MinInt },
		"Born as great as can be":           func(n *impl.Net) { n.Nodes[4].Born = math.MaxInt },
		"Born one more":                     func(n *impl.Net) { n.Nodes[3].Born++ },
		"Born one less":                     func(n *impl.Net) { n.Nodes[3].Born-- },
		"another thing":                     func(n *impl.Net) { n.Past[1][1][0] = 5 },
		"two things turned about":           func(n *impl.Net) { n.Past[2][1][7], n.Past[2][1][8] = 56, 55 },
	}
}

// brokenEntries change a list that tells of the node 2 in its place 2, of Born 1 all 9 things, and of others.
func brokenEntries() map[string]func(list []impl.Entry) []impl.Entry {
	list := map[string]func(list []impl.Entry) []impl.Entry{
		"turned about": func(list []impl.Entry) []impl.Entry {
			return append(list[:0], append([]impl.Entry{list[1], list[0]}, list[2:]...)...)
		},
		"the last two turned about": func(list []impl.Entry) []impl.Entry {
			last := len(list) - 1
			list[last], list[last-1] = list[last-1], list[last]
			return list
		},
		"twice of one node":    func(list []impl.Entry) []impl.Entry { return slices.Insert(list, 3, plain(list[2])) },
		"the last one twice":   func(list []impl.Entry) []impl.Entry { return append(list, plain(list[len(list)-1])) },
		"once more at the end": func(list []impl.Entry) []impl.Entry { return append(list, plain(list[0])) },
	}
	for name, change := range untrueEntries() {
		list[name] = func(list []impl.Entry) []impl.Entry {
			place := slices.IndexFunc(list, func(e impl.Entry) bool { return e.Node == 2 })
			change(&list[place])
			return list
		}
	}
	list["of what is no node"] = func(list []impl.Entry) []impl.Entry {
		return append(list, impl.Entry{Node: 5, Born: 1, Sum: noSum()})
	}
	list["of a node below all"] = func(list []impl.Entry) []impl.Entry {
		return slices.Insert(list, 0, impl.Entry{Node: -1, Born: 1, Sum: noSum()})
	}
	return list
}

// untrueEntries change one of the node 2, Born 1, of just all 9 things: the first 9 of inTurn(9, 7).
func untrueEntries() map[string]func(e *impl.Entry) {
	return map[string]func(e *impl.Entry){
		"nothing":                 func(e *impl.Entry) { *e = impl.Entry{Node: 2} },
		"Born 0":                  func(e *impl.Entry) { *e = impl.Entry{Node: 2, Born: 0, Num: 0, Sum: noSum()} },
		"Born -1":                 func(e *impl.Entry) { e.Born, e.Num, e.Sum = -1, 0, noSum() },
		"Born that is not yet":    func(e *impl.Entry) { e.Born, e.Num, e.Sum = 3, 0, noSum() },
		"Born, great":             func(e *impl.Entry) { e.Born, e.Num, e.Sum = math.MaxInt, 0, noSum() },
		"of what came later":      func(e *impl.Entry) { e.Born = 2 },
		"Num below 0":             func(e *impl.Entry) { e.Num, e.Sum = -1, noSum() },
		"Num, small":              func(e *impl.Entry) { e.Num, e.Sum = math.MinInt, noSum() },
		"Num 0, and what counted": func(e *impl.Entry) { e.Num = 0 },
		"one less":                func(e *impl.Entry) { e.Num = 8 },
		"one more":                func(e *impl.Entry) { e.Num = 10 },
		"one more, and the sum":   func(e *impl.Entry) { e.Num, e.Sum = 10, truthOf(inTurn(10, 7)) },
		"Num, great":              func(e *impl.Entry) { e.Num = math.MaxInt },
		"no Sum":                  func(e *impl.Entry) { e.Sum = impl.Sum{} },
		"the Sum of none":         func(e *impl.Entry) { e.Sum = noSum() },
		"the Sum of fewer":        func(e *impl.Entry) { e.Sum = truthOf(inTurn(8, 7)) },
		"the Sum of others":       func(e *impl.Entry) { e.Sum = truthOf(inTurn(9, 5)) },
		"another Rough":           func(e *impl.Entry) { e.Sum.Rough = truthOf(inTurn(9, 5)).Rough },
		"another number":          func(e *impl.Entry) { e.Sum.Rough.Rows[2][7]++ },
		"a row too few":           func(e *impl.Entry) { e.Sum.Rough.Rows = e.Sum.Rough.Rows[:2] },
		"a row too many":          func(e *impl.Entry) { e.Sum.Rough.Rows = append(e.Sum.Rough.Rows, nil) },
		"a mark too few":          func(e *impl.Entry) { e.Sum.Few.Kept = e.Sum.Few.Kept[:5] },
		"another mark":            func(e *impl.Entry) { e.Sum.Few.Kept[5]++ },
		"another pair":            func(e *impl.Entry) { e.Sum.Top.Pairs = append(e.Sum.Top.Pairs, impl.Pair{Thing: 62, Num: 1}) },
		"another Lost":            func(e *impl.Entry) { e.Sum.Top.Lost-- },
		"another All of Top":      func(e *impl.Entry) { e.Sum.Top.All++ },
		"another knot":            func(e *impl.Entry) { e.Sum.Rank.Knots[0].At++ },
		"another Num of a knot":   func(e *impl.Entry) { e.Sum.Rank.Knots[0].Num++ },
		"a knot too few":          func(e *impl.Entry) { e.Sum.Rank.Knots = e.Sum.Rank.Knots[1:] },
		"another All of Rank":     func(e *impl.Entry) { e.Sum.Rank.All++ },
	}
}

func brokenKnowns() map[string]func(n *impl.Net) {
	list := map[string]func(n *impl.Net){
		"itself as before": func(n *impl.Net) {
			n.Nodes[2].Known = []impl.Entry{entryOf(*n, 2, 1, 9)}
		},
		"itself as before, of as much": func(n *impl.Net) {
			n.Nodes[2].Known = []impl.Entry{entryOf(*n, 2, 1, 2)}
		},
		"another alone": func(n *impl.Net) { n.Nodes[4].Known = []impl.Entry{entryOf(*n, 3, 1, 2)} },
	}
	for node := range 5 {
		list["nothing"+ofAll(node)] = func(n *impl.Net) { n.Nodes[node].Known = nil }
		list["all but itself"+ofAll(node)] = func(n *impl.Net) {
			n.Nodes[node].Known = slices.DeleteFunc(n.Nodes[node].Known, func(e impl.Entry) bool { return e.Node == node })
		}
		list["itself, but less than it counted"+ofAll(node)] = func(n *impl.Net) {
			born := n.Nodes[node].Born
			n.Past[node][born] = append(n.Past[node][born], 50)
		}
	}
	return list
}

func brokenHearings() map[string]func(n *impl.Net) {
	list := map[string]func(n *impl.Net){
		"the root's Level 1":                   func(n *impl.Net) { n.Nodes[0].Level = 1 },
		"the root's Level 1, Up":               func(n *impl.Net) { n.Nodes[0].Level, n.Nodes[0].Up = 1, 1 },
		"the root's Level -1":                  func(n *impl.Net) { n.Nodes[0].Level = -1 },
		"the root's Level 5":                   func(n *impl.Net) { n.Nodes[0].Level = 5 },
		"the root's Up 0":                      func(n *impl.Net) { n.Nodes[0].Up = 0 },
		"the root's Up 1":                      func(n *impl.Net) { n.Nodes[0].Up = 1 },
		"the root's Up -2":                     func(n *impl.Net) { n.Nodes[0].Up = -2 },
		"the root's Beacon 1001":               func(n *impl.Net) { n.Nodes[0].Beacon = 1001 },
		"the root's Beacon as great as can be": func(n *impl.Net) { n.Nodes[0].Beacon = math.MaxInt },
		"the root's Beacon -1": func(n *impl.Net) {
			n.Nodes[0].Beacon, n.Words = -1, nil
			for node := 1; node < 5; node++ {
				n.Nodes[node].Beacon = -1
			}
		},
		"the root's Beacon below that of others": func(n *impl.Net) { n.Nodes[0].Beacon, n.Words = 1, nil },
	}
	for node := 1; node < 5; node++ {
		for name, to := range map[string][3]int{
			"Beacon above the root's":  {4, 1, 0},
			"Beacon 1000":              {1000, 1, 0},
			"Beacon -1":                {-1, 1, 0},
			"Beacon -1, of nobody":     {-1, 5, -1},
			"Level 0":                  {1, 0, 0},
			"Level 0, Up nobody":       {1, 0, -1},
			"Level -1":                 {1, -1, 0},
			"Level 6":                  {1, 6, 0},
			"Level 6, Up nobody":       {1, 6, -1},
			"Level 1, Up nobody":       {1, 1, -1},
			"Level 4, Up nobody":       {1, 4, -1},
			"Level 5, Up the root":     {1, 5, 0},
			"Level 5, Up -2":           {1, 5, -2},
			"Up itself":                {1, 2, node},
			"Up 5":                     {1, 2, 5},
			"Up -2":                    {1, 2, -2},
			"Up as great as can be":    {1, 2, math.MaxInt},
			"Level as great as can be": {1, math.MaxInt, -1},
		} {
			list[name+ofAll(node)] = func(n *impl.Net) {
				n.Nodes[node].Beacon, n.Nodes[node].Level, n.Nodes[node].Up = to[0], to[1], to[2]
			}
		}
	}
	return list
}

// brokenWords change, in most cases, one of the words of richNet: the last one is a hello, the one in place 3 tells of four nodes.
func brokenWords() map[string]func(n *impl.Net) {
	list := map[string]func(n *impl.Net){}
	for name, change := range map[string]func(w *impl.Word){
		"nothing":                func(w *impl.Word) { *w = impl.Word{} },
		"Kind 0":                 func(w *impl.Word) { w.Kind = 0 },
		"Kind 3":                 func(w *impl.Word) { w.Kind = 3 },
		"Kind -1":                func(w *impl.Word) { w.Kind = -1 },
		"From itself":            func(w *impl.Word) { w.From = w.To },
		"To itself":              func(w *impl.Word) { w.To = w.From },
		"From nobody":            func(w *impl.Word) { w.From = -1 },
		"To nobody":              func(w *impl.Word) { w.To = -1 },
		"From 5":                 func(w *impl.Word) { w.From = 5 },
		"To 5":                   func(w *impl.Word) { w.To = 5 },
		"To as great as can be":  func(w *impl.Word) { w.To = math.MaxInt },
		"From as small as it is": func(w *impl.Word) { w.From = math.MinInt },
	} {
		list[name+", a hello"] = func(n *impl.Net) { change(&n.Words[7]) }
		list[name+", what is told"] = func(n *impl.Net) { change(&n.Words[3]) }
		list[name+", the one ahead"] = func(n *impl.Net) { change(&n.Words[0]) }
	}
	for name, change := range map[string]func(n *impl.Net, w *impl.Word){
		"hello, Beacon above the root's": func(n *impl.Net, w *impl.Word) { w.Beacon = n.Nodes[0].Beacon + 1 },
		"hello, Beacon -1":               func(_ *impl.Net, w *impl.Word) { w.Beacon = -1 },
		"hello, Level -1":                func(_ *impl.Net, w *impl.Word) { w.Level = -1 },
		"hello, Level 5":                 func(_ *impl.Net, w *impl.Word) { w.Level = 5 },
		"hello, what is known":           func(n *impl.Net, w *impl.Word) { w.Known = []impl.Entry{entryOf(*n, 1, 1, 2)} },
		"hello, what is not true":        func(_ *impl.Net, w *impl.Word) { w.Known = make([]impl.Entry, 1) },
		"hello that tells":               func(n *impl.Net, w *impl.Word) { w.Kind, w.Known = 2, []impl.Entry{entryOf(*n, 1, 1, 2)} },
	} {
		list[name] = func(n *impl.Net) { change(n, &n.Words[7]) }
	}
	for name, change := range map[string]func(w *impl.Word){
		"tell, Beacon 1":   func(w *impl.Word) { w.Beacon = 1 },
		"tell, Beacon -1":  func(w *impl.Word) { w.Beacon = -1 },
		"tell, Level 1":    func(w *impl.Word) { w.Level = 1 },
		"tell, Level -1":   func(w *impl.Word) { w.Level = -1 },
		"tell that greets": func(w *impl.Word) { w.Kind = 1 },
	} {
		list[name] = func(n *impl.Net) { change(&n.Words[3]) }
	}
	return list
}

// twist changes something of a value at random: a number, a list that gets longer or shorter, or has two parts turned about. It goes into one part of what has parts.
func twist(random *rand.Rand, v reflect.Value) {
	switch v.Kind() {
	case reflect.Struct:
		twist(random, v.Field(random.IntN(v.NumField())))
	case reflect.Bool:
		v.SetBool(!v.Bool())
	case reflect.Int:
		far := []int64{v.Int() + 1, v.Int() + 1, v.Int() - 1, v.Int() - 1, 0, -1, 5, 64, 1001, math.MaxInt, math.MinInt}
		v.SetInt(far[random.IntN(len(far))])
	case reflect.Slice:
		twistList(random, v)
	}
}

func twistList(random *rand.Rand, v reflect.Value) {
	last := v.Len() - 1
	if last < 0 {
		v.Set(reflect.Append(v, reflect.Zero(v.Type().Elem())))
		return
	}
	switch random.IntN(12) {
	case 0:
		v.Set(v.Slice(0, last))
	case 1:
		v.Set(reflect.Append(v, plainValue(v.Index(random.IntN(last+1)))))
	case 2:
		one, other := v.Index(random.IntN(last+1)), v.Index(random.IntN(last+1))
		kept := plainValue(one)
		one.Set(other)
		other.Set(kept)
	default:
		twist(random, v.Index(random.IntN(last+1)))
	}
}
