package tests

import (
	"fmt"
	"math/rand/v2"
	"slices"
	"strings"
	"sync"
	"testing"

	"loop.example/inkling/impl"
)

func TestPromise101ADeedIsReadBackFromItsText(t *testing.T) {
	if len(allWritten()) != 3*100*100+6*100+1 {
		t.Fatalf("there are %d texts", len(allWritten()))
	}
	for text, d := range allWritten() {
		if got := impl.DeedText(d); got != text {
			t.Fatalf("DeedText(%v) is %q, not %q", d, got, text)
		}
		mustReadDeed(t, text, d)
	}
}

func TestPromise101EachKindIsWrittenByItsWord(t *testing.T) {
	for text, d := range map[string]impl.Deed{
		"count 4 63":  {Kind: impl.DeedCount, A: 4, B: 63},
		"count 0 0":   {Kind: impl.DeedCount},
		"count 99 99": {Kind: impl.DeedCount, A: 99, B: 99},
		"hello 9":     {Kind: impl.DeedHello, A: 9},
		"tell 10":     {Kind: impl.DeedTell, A: 10},
		"take 0":      {Kind: impl.DeedTake},
		"twice 99":    {Kind: impl.DeedTwice, A: 99},
		"lose 23":     {Kind: impl.DeedLose, A: 23},
		"crash 4":     {Kind: impl.DeedCrash, A: 4},
		"beacon":      {Kind: impl.DeedBeacon},
		"cut 0 10":    {Kind: impl.DeedCut, B: 10},
		"mend 9 1":    {Kind: impl.DeedMend, A: 9, B: 1},
	} {
		if got := impl.DeedText(d); got != text {
			t.Errorf("DeedText(%v) is %q, not %q", d, got, text)
		}
		mustReadDeed(t, text, d)
	}
}

func TestPromise101NoOtherDeedHasAText(t *testing.T) {
	kinds := append(edgeNumbers(), 2, 3, 6, 7, 8, 12)
	for _, kind := range kinds {
		for _, a := range edgeNumbers() {
			for _, b := range edgeNumbers() {
				d := deedOf(kind, a, b)
				if got := impl.DeedText(d); got != textOf(d) {
					t.Fatalf("DeedText(%v) is %q, not %q", d, got, textOf(d))
				}
			}
		}
	}
	for _, d := range []impl.Deed{{}, deedOf(0, 1, 1), deedOf(11, 0, 0), deedOf(-1, 0, 0), deedOf(impl.DeedHello, 1, 1), deedOf(impl.DeedHello, 100, 0), deedOf(impl.DeedHello, 0, -1), deedOf(impl.DeedBeacon, 1, 0), deedOf(impl.DeedBeacon, 0, 1), deedOf(impl.DeedCount, 0, 100), deedOf(impl.DeedCount, -1, 0), deedOf(impl.DeedCut, 100, 0), deedOf(impl.DeedMend, 0, -1)} {
		if got := impl.DeedText(d); got != "" {
			t.Errorf("DeedText(%v) is %q", d, got)
		}
	}
}

func TestPromise102ADeedHasJustOneText(t *testing.T) {
	check := func(text string) {
		if d, ok := allWritten()[text]; ok {
			mustReadDeed(t, text, d)
		} else {
			mustRefuseText(t, "near a text", text)
		}
	}
	for text, d := range allWritten() {
		if !slices.Contains(edgeNumbers(), d.A) || !slices.Contains(edgeNumbers(), d.B) {
			continue
		}
		for place := range len(text) + 1 {
			check(text[:place])
			check(text[place:])
			check(text[place:] + text[:place])
			check(text[:place] + "\u0660" + text[place:])
			for other := range 256 {
				check(text[:place] + string([]byte{byte(other)}) + text[place:])
				if place < len(text) {
					check(text[:place] + string([]byte{byte(other)}) + text[place+1:])
				}
			}
		}
		check(text + text)
		check(strings.ToUpper(text))
		check(text + strings.Repeat(" ", 30-len(text)))
		check(text + strings.Repeat(" ", 31-len(text)))
	}
}

func TestPromise102WhatIsNoDeedIsNotRead(t *testing.T) {
	mustRefuseText(t, "empty", "")
	mustRefuseText(t, "a newline", "\n")
	mustRefuseText(t, "a newline at the end", "hello 1\n")
	mustRefuseText(t, "a newline between", "count 1\n1")
	mustRefuseText(t, "very long", strings.Repeat("hello 1 ", 100000))
	for name, text := range noDeedTexts() {
		mustRefuseText(t, name, text)
	}
	random := rand.New(rand.NewPCG(33, 34))
	for range 100000 {
		text := ""
		for range random.IntN(13) {
			text += string([]byte{byte(random.IntN(256))})
		}
		mustRefuseText(t, "bytes at random", text)
	}
}

func TestPromise103DeedsAreTheSameJustIfTheirTextsAre(t *testing.T) {
	written := map[string]impl.Deed{}
	for _, d := range allWritten() {
		text := impl.DeedText(d)
		if other, has := written[text]; has {
			t.Fatalf("%v and %v are both %q", d, other, text)
		}
		written[text] = d
		if again := impl.DeedText(deedOf(d.Kind, d.A, d.B)); again != text {
			t.Fatalf("%v is %q, and %q", d, text, again)
		}
	}
}

func TestPromise104ATextIsToldTwoLinesAtLeastAndTwoMoreThanItHasAtMost(t *testing.T) {
	eachText(func(name string, text string) {
		if len(text) > 800 {
			t.Fatalf("%s: there are %d bytes", name, len(text))
		}
		got := impl.LinesRun(text)
		lines := strings.Count("\n"+strings.TrimSuffix(text, "\n"), "\n")
		if text == "" {
			lines = 0
		}
		told := strings.Count(got, "\n")
		if told < 2 || told > lines+2 || !strings.HasSuffix(got, "\n") {
			t.Fatalf("%s: of %d lines are told %d: %q", name, lines, told, got)
		}
		if want := toldText(t, text); got != want {
			t.Fatalf("%s: LinesRun(%q) is %q, not %q", name, text, got, want)
		}
	})
}

func TestPromise104ATextOfMoreBytesIsTooLong(t *testing.T) {
	for name, text := range map[string]string{
		"newlines":               strings.Repeat("\n", 801),
		"blanks":                 strings.Repeat(" ", 801),
		"zero bytes":             strings.Repeat("\x00", 801),
		"deeds":                  strings.Repeat("beacon\n", 114) + "\n\n\n",
		"deeds, no newline":      "\n" + strings.Repeat("count 4 63\ncount 4 0\nhello 0\n\n", 26) + "count 1 1\ncount 1 2\n",
		"401 runes of two bytes": strings.Repeat("\u00e9", 401),
		"900 bytes":              strings.Repeat("count 1 1\n", 90),
		"many bytes":             strings.Repeat("count 1 1\n", 100000),
	} {
		if len(text) <= 800 {
			t.Fatalf("%s: there are %d bytes", name, len(text))
		}
		mustTell(t, name, text, "too long\n")
	}
	for name, text := range edgeTexts() {
		mustTell(t, name+", and one byte more than 800", text+strings.Repeat("\n", 801-len(text)), "too long\n")
		mustTell(t, name+", and just 800 bytes", text+strings.Repeat("\n", 800-len(text)), impl.LinesRun(text))
	}
	if edgeTexts()["just 800 bytes, of deeds"][799] != '\n' || len(edgeTexts()["just 800 bytes, of deeds"]) != 800 {
		t.Error("there are not just 800 bytes")
	}
}

func TestPromise105EmptyLinesSayNothing(t *testing.T) {
	nothing := "all 0 things 0\nall 0 things 0\n"
	for _, num := range []int{0, 1, 2, 799, 800} {
		mustTell(t, "newlines alone", strings.Repeat("\n", num), nothing)
	}
	eachText(func(name string, text string) {
		want := impl.LinesRun(text)
		spare := 800 - len(text)
		lines := strings.SplitAfter(text, "\n")
		for place := 0; place <= len(lines) && spare > 0; place += 1 + len(lines)/4 {
			ahead, behind := strings.Join(lines[:place], ""), strings.Join(lines[place:], "")
			if place == len(lines) && ahead != "" && !strings.HasSuffix(ahead, "\n") {
				mustTell(t, name+", ended", ahead+"\n", want)
				continue
			}
			mustTell(t, name+", one empty line", ahead+"\n"+behind, want)
			mustTell(t, name+", as many as there can be", ahead+strings.Repeat("\n", spare)+behind, want)
		}
		var full []string
		for line := range strings.SplitSeq(text, "\n") {
			if line != "" {
				full = append(full, line)
			}
		}
		mustTell(t, name+", without them", strings.Join(full, "\n"), want)
	})
}

func TestPromise106WhatIsNoDeedOrCannotBeIsToldAndChangesNothing(t *testing.T) {
	eachText(func(name string, text string) {
		told, done, _ := toldLines(t, text)
		mustTell(t, name, text, strings.Join(told, "")+impl.LinesRun(strings.Join(done, "\n")))
	})
}

func TestPromise106EachThatIsNoDeedIsToldByOneWord(t *testing.T) {
	nothing := "all 0 things 0\nall 0 things 0\n"
	for name, line := range noDeedTexts() {
		mustTell(t, name, line, "what\n"+nothing)
		if len(line) < 400 {
			mustTell(t, name+", twice", line+"\n\n"+line+"\n", "what\nwhat\n"+nothing)
		}
		if len(heardText+line) <= 800 {
			heard := "all 3 things 2 half 9 7:1-1 9:2-2\n"
			mustTell(t, name+", heard", heardText+line, "what\n"+heard+heard)
			mustTell(t, name+", ahead", line+"\n"+heardText, "what\n"+heard+heard)
		}
	}
}

func TestPromise106EachThatCannotBeIsToldWithTheLine(t *testing.T) {
	nothing := "all 0 things 0\nall 0 things 0\n"
	for _, line := range impossibleLines() {
		if allWritten()[line].Kind == 0 {
			t.Fatalf("%q is no deed", line)
		}
		mustTell(t, "at first", line, "not "+line+"\n"+nothing)
		mustTell(t, "twice, and ended", line+"\n"+line+"\n", "not "+line+"\nnot "+line+"\n"+nothing)
		mustTell(t, "ahead of one that can be", line+"\ncount 0 5", "not "+line+"\nall 1 things 1 half 5 5:1-1\nall 1 things 1 half 5 5:1-1\n")
	}
	for text, want := range map[string]string{
		"cut 0 1\ncut 0 1\n":                 "not cut 0 1\n",
		"cut 0 1\ncut 1 0\nmend 0 1":         "not cut 1 0\n",
		"mend 0 4\nmend 4 0\ncut 4 0":        "not mend 4 0\n",
		"cut 3 4\nmend 4 3\nmend 3 4":        "not mend 3 4\n",
		"hello 0\ntake 1\ntake 0\ntake 0":    "not take 1\nnot take 0\n",
		"hello 0\nlose 0\ntwice 0\nlose 0":   "not twice 0\nnot lose 0\n",
		"cut 0 1\nhello 0\nmend 0 1":         "not hello 0\n",
		"hello 0\ntake 0\ncut 1 0\ntell 1\n": "not tell 1\n",
		"take 0\nwhat\ntake 0\nwhat\n":       "not take 0\nwhat\nnot take 0\nwhat\n",
	} {
		mustTell(t, "of links and words", text, want+nothing)
	}
	mustTell(t, "words are full", strings.Repeat("hello 0\n", 25)+"take 24\ntake 23\nhello 0\nhello 0", "not hello 0\nnot take 24\nnot hello 0\n"+nothing)
}

func TestPromise107ARootThatIsBornAnewKnowsNothingOfOthers(t *testing.T) {
	nothing, of0 := "all 0 things 0\n", "all 1 things 1 half 5 5:1-1\n"
	heard := "all 3 things 2 half 9 7:1-1 9:2-2\n"
	mustTell(t, "heard", heardText, heard+heard)
	mustTell(t, "born anew", heardText+"crash 0", nothing+heard)
	mustTell(t, "born anew, and counted", heardText+"crash 0\ncount 0 5\n", of0+"all 4 things 3 half 7 5:1-1 7:1-1 9:2-2\n")
	mustTell(t, "counted, and born anew", heardText+"count 0 5\ncrash 0\n", nothing+heard)
	mustTell(t, "born anew, and cut", heardText+"cut 0 1\ncrash 0\ncount 0 5", of0+of0)
	mustTell(t, "born anew, and heard again", heardText+"crash 0\ntell 1\ntake 0", heard+heard)
	mustTell(t, "another is born anew", heardText+"crash 1", heard+"all 2 things 1 half 9 9:2-2\n")
	mustTell(t, "just so often", heardText+strings.Repeat("crash 0\n", 19), nothing+heard)
	mustTell(t, "once too often", heardText+strings.Repeat("crash 0\n", 20), "not crash 0\n"+nothing+heard)
	mustTell(t, "heard, and once too often", heardText+strings.Repeat("crash 0\n", 19)+"tell 1\ntake 0\ncrash 0\ncrash 0", "not crash 0\nnot crash 0\n"+heard+heard)
	mustTell(t, "counted, and once too often", strings.Repeat("crash 0\n", 19)+"count 0 5\ncrash 0", "not crash 0\n"+of0+of0)
	eachText(func(name string, text string) {
		told, _, n := toldLines(t, text)
		if len(text) > 790 {
			return
		}
		want := strings.Join(told, "")
		if n.Nodes[0].Born < 20 {
			want += nothing
		} else {
			want += "not crash 0\n" + rootToldOf(n)
		}
		if got := impl.LinesRun(text + "\ncrash 0"); !strings.HasPrefix(got, want) {
			t.Fatalf("%s: LinesRun(%q) is %q, not %q ahead", name, text+"\ncrash 0", got, want)
		}
	})
}

// The lines at the end, reckoned by hand.
func TestLinesTellWhatTheRootKnowsNowAndAtLast(t *testing.T) {
	both := func(line string) string { return line + "\n" + line + "\n" }
	for text, want := range map[string]string{
		"":                                           both("all 0 things 0"),
		"count 0 0":                                  both("all 1 things 1 half 0 0:1-1"),
		"count 0 63\n":                               both("all 1 things 1 half 63 63:1-1"),
		"count 0 5\ncount 0 5\n":                     both("all 2 things 1 half 5 5:2-2"),
		"count 0 9\ncount 0 5\n":                     both("all 2 things 2 half 5 5:1-1 9:1-1"),
		countText(0, []int{9, 5, 7}):                 both("all 3 things 3 half 7 5:1-1 7:1-1 9:1-1"),
		countText(0, []int{9, 5, 7, 1}):              both("all 4 things 4 half 5 1:1-1 5:1-1 7:1-1 9:1-1"),
		countText(0, inTurn(5, 1)):                   both("all 5 things 5 half 2"),
		countText(0, []int{1, 2, 3, 4, 5, 6}):        both("all 6 things 5 or so half 3 6:1-1"),
		countText(0, []int{1, 2, 3, 4, 5, 6, 7}):     both("all 7 things 6 or so half 4 6:1-1 7:1-1"),
		countText(0, []int{5, 5, 5, 1, 2, 3, 4}):     both("all 7 things 5 half 4 5:2-3"),
		countText(2, []int{5, 9}):                    "all 0 things 0\nall 2 things 2 half 5 5:1-1 9:1-1\n",
		"cut 1 2\n" + countText(2, []int{5, 9}):      "all 0 things 0\nall 0 things 0\n",
		"count 0 1\ncount 1 2\ncut 0 1\n":            both("all 1 things 1 half 1 1:1-1"),
		"count 0 1\ncount 1 1\ncount 4 1\n":          "all 1 things 1 half 1 1:1-1\nall 3 things 1 half 1 1:3-3\n",
		"count 0 1\ncut 0 1\nmend 4 0\ncount 1 2\n":  "all 1 things 1 half 1 1:1-1\nall 2 things 2 half 1 1:1-1 2:1-1\n",
		strings.Repeat("crash 0\n", 3) + "count 0 1": both("all 1 things 1 half 1 1:1-1"),
		"count 3 1\ncrash 3\ncount 3 2":              "all 0 things 0\nall 1 things 1 half 2 2:1-1\n",
	} {
		mustTell(t, "by hand", text, want)
	}
}

// What is told does not hang on which of both lines is reckoned first, nor on what was asked before, or is asked beside it.
func TestLinesTellAlwaysTheSame(t *testing.T) {
	texts := someTexts(40)
	var want []string
	for _, text := range texts {
		want = append(want, impl.LinesRun(text))
	}
	answers := make([][]string, 8)
	var all sync.WaitGroup
	for i := range answers {
		all.Go(func() {
			for j := range texts {
				answers[i] = append(answers[i], impl.LinesRun(texts[(i*5+j)%len(texts)]))
			}
		})
	}
	all.Wait()
	for i, list := range answers {
		for j, got := range list {
			if place := (i*5 + j) % len(texts); got != want[place] {
				t.Errorf("LinesRun(%q) is %q, and %q", texts[place], got, want[place])
			}
		}
	}
	for range 500 {
		mustTell(t, "once more", heardText+"crash 0\n", "all 0 things 0\nall 3 things 2 half 9 7:1-1 9:2-2\n")
		mustReadDeed(t, "count 1 2", deedOf(impl.DeedCount, 1, 2))
		mustRefuseText(t, "once more", "count 1")
	}
}

// The samples have to have what they are for: without it the tests above hold nothing.
func TestSamplesOfTextsHaveTheirEdges(t *testing.T) {
	found := map[string]int{}
	eachText(func(name string, text string) {
		told := toldText(t, text)
		for _, part := range []string{"what\n", " or so", " half ", "not count", "not hello", "not tell", "not take", "not twice", "not lose", "not crash", "not cut", "not mend"} {
			if strings.Contains(told, part) {
				found[part]++
			}
		}
		lines := strings.Split(strings.TrimSuffix(told, "\n"), "\n")
		last := lines[len(lines)-1]
		found[fmt.Sprintf("%d pairs", strings.Count(last, ":"))]++
		if last != lines[len(lines)-2] {
			found["two lines that are not the same"]++
		}
		for _, word := range strings.Fields(last) {
			if least, most, isPair := strings.Cut(word, "-"); isPair && !strings.HasSuffix(least, ":"+most) {
				found["least and most that are not the same"]++
				break
			}
		}
	})
	for _, part := range []string{"what\n", " or so", " half ", "not count", "not hello", "not tell", "not take", "not twice", "not lose", "not crash", "not cut", "not mend", "0 pairs", "1 pairs", "2 pairs", "3 pairs", "4 pairs", "two lines that are not the same", "least and most that are not the same"} {
		if found[part] < 3 {
			t.Errorf("%d texts have %q", found[part], part)
		}
	}
	if found["5 pairs"] > 0 {
		t.Error("there are too many pairs")
	}
	t.Log(found)
}
