package tests

import (
	"fmt"
	"math"
	"math/rand/v2"
	"slices"
	"strings"
	"sync"
	"testing"

	"loop.example/inkling/impl"
)

// deedWords has the word of each kind, by kinds, and behind it a blank for each number that such a deed has; of no kind nothing.
var deedWords = [11]string{"", "count  ", "hello ", "tell ", "take ", "twice ", "lose ", "crash ", "beacon", "cut  ", "mend  "}

// numbersBehind is how many numbers a deed of that kind has.
func numbersBehind(kind int) int {
	return strings.Count(deedWords[kind], " ")
}

// textOf is, without the program, the text of a deed.
func textOf(d impl.Deed) string {
	if d.Kind < 1 || d.Kind > 10 || d.A < 0 || d.A > 99 || d.B < 0 || d.B > 99 {
		return ""
	}
	word, numbers := strings.TrimRight(deedWords[d.Kind], " "), numbersBehind(d.Kind)
	switch {
	case numbers == 2:
		return fmt.Sprintf("%s %d %d", word, d.A, d.B)
	case numbers == 1 && d.B == 0:
		return fmt.Sprintf("%s %d", word, d.A)
	case numbers == 0 && d.A == 0 && d.B == 0:
		return word
	}
	return ""
}

// textsOf are those of deeds, each a line.
func textsOf(deeds ...impl.Deed) string {
	text := ""
	for _, d := range deeds {
		text += textOf(d) + "\n"
	}
	return text
}

// allWritten has, without the program, all deeds that have a text, by these.
var allWritten = sync.OnceValue(func() map[string]impl.Deed {
	deeds := map[string]impl.Deed{}
	for kind := range 11 {
		for a := range 100 {
			for b := range 100 {
				if d := deedOf(kind, a, b); textOf(d) != "" {
					deeds[textOf(d)] = d
				}
			}
		}
	}
	return deeds
})

// edgeNumbers are those at the edges of what is written, and of nodes, and things.
func edgeNumbers() []int {
	return []int{math.MinInt, -100, -10, -1, 0, 1, 4, 5, 9, 10, 11, 63, 64, 98, 99, 100, 101, 999, math.MaxInt}
}

// mustReadDeed fails unless a text is read as that.
func mustReadDeed(t *testing.T, text string, want impl.Deed) {
	t.Helper()
	if d, ok := impl.DeedRead(text); !ok || d != want {
		t.Fatalf("DeedRead(%q) is %v %v, not %v", text, d, ok, want)
	}
}

// mustRefuseText fails unless a text is read as nothing and false.
func mustRefuseText(t *testing.T, what string, text string) {
	t.Helper()
	if d, ok := impl.DeedRead(text); ok || d != (impl.Deed{}) {
		t.Fatalf("%s: DeedRead(%q) is %v %v, not nothing and false", what, text, d, ok)
	}
}

// mustTell fails unless LinesRun answers just so.
func mustTell(t *testing.T, what string, text string, want string) {
	t.Helper()
	if got := impl.LinesRun(text); got != want {
		t.Fatalf("%s: LinesRun(%q) is %q, not %q", what, text, got, want)
	}
}

// noDeedTexts are no text of a deed; none has a newline.
func noDeedTexts() map[string]string {
	texts := map[string]string{
		"another case":               "Count 1 1",
		"all in another case":        "HELLO 1",
		"a needless zero":            "hello 01",
		"a needless zero, of 0":      "hello 00",
		"a needless zero, as B":      "count 1 09",
		"a sign":                     "hello +1",
		"a sign below 0":             "hello -1",
		"a sign of 0":                "hello -0",
		"a sign, as B":               "cut 0 +1",
		"a B below 0":                "count 1 -1",
		"a number without a digit":   "hello x",
		"a sign without a digit":     "hello -",
		"an empty number":            "hello ",
		"an empty number, as B":      "count 1 ",
		"an empty number, as A":      "count  1",
		"three digits":               "hello 100",
		"three digits, as B":         "count 1 100",
		"three digits, of zeros":     "hello 001",
		"many digits":                "hello 99999999999999999999",
		"a number with a point":      "hello 1.0",
		"a number with a power":      "hello 1e1",
		"a number with a low line":   "hello 1_0",
		"a number of base 16":        "hello 0x1",
		"a number of letters":        "hello one",
		"two blanks":                 "hello  1",
		"two blanks, as B":           "count 1  1",
		"a blank at the beginning":   " hello 1",
		"a blank at the end":         "hello 1 ",
		"a blank at the end, none":   "beacon ",
		"a blank at the begin, none": " beacon",
		"a tab":                      "hello\t1",
		"a tab at the end":           "hello 1\t",
		"a tab behind a blank":       "count 1 \t1",
		"a carriage return":          "hello 1\r",
		"a carriage return, alone":   "\r",
		"a blank, alone":             " ",
		"two blanks, alone":          "  ",
		"a word too many":            "hello 1 1",
		"a word of 0 too many":       "take 1 0",
		"a word too many, of two":    "count 1 1 1",
		"a word too many, of none":   "beacon 0",
		"a word too few":             "hello",
		"a word too few, of two":     "cut 1",
		"no number of two":           "mend",
		"numbers alone":              "1 1",
		"a number alone":             "1",
		"a number as a word":         "2 0",
		"no such word":               "what",
		"no such word, with one":     "not 1",
		"words that are told":        "not take 0",
		"a word that is told":        "all 0 things 0",
		"a part of a word":           "coun 1 1",
		"a longer word":              "counts 1 1",
		"two words without a blank":  "count1 1",
		"a word behind the numbers":  "1 hello",
		"two deeds":                  "hello 1 hello 1",
		"a comma":                    "count 1,1",
		"quoted":                     "\"hello 1\"",
		"a zero byte":                "hello 1\x00",
		"a zero byte, alone":         "\x00",
		"a zero byte for a blank":    "hello\x001",
		"bytes of no rune":           "hello \xff",
		"bytes of no rune, alone":    "\xff\xfe",
		"a digit of another script":  "hello \u0661",
		"a wide digit":               "hello \uff11",
		"a wide letter":              "\uff48ello 1",
		"another blank":              "hello\u00a01",
		"a mark of order ahead":      "\ufeffhello 1",
		"a letter of two bytes":      "hell\u00f6 1",
	}
	for _, size := range []int{12, 29, 30, 31, 32, 800} {
		texts[fmt.Sprintf("zeros up to %d bytes", size)] = "hello " + strings.Repeat("0", size-7) + "1"
		texts[fmt.Sprintf("zeros, as B, up to %d bytes", size)] = "count 1 " + strings.Repeat("0", size-9) + "1"
		texts[fmt.Sprintf("blanks behind, up to %d bytes", size)] = "beacon" + strings.Repeat(" ", size-6)
		texts[fmt.Sprintf("blanks ahead, up to %d bytes", size)] = strings.Repeat(" ", size-6) + "beacon"
		texts[fmt.Sprintf("blanks between, up to %d bytes", size)] = "hello" + strings.Repeat(" ", size-6) + "1"
		texts[fmt.Sprintf("letters up to %d bytes", size)] = strings.Repeat("o", size)
	}
	return texts
}

// impossibleLines are deeds that cannot be in the net with which LinesRun begins.
func impossibleLines() []string {
	return []string{
		"count 5 0", "count 99 0", "count 0 64", "count 4 99", "count 5 64",
		"hello 1", "hello 4", "hello 5", "hello 99",
		"tell 0", "tell 1", "tell 4", "tell 5", "tell 99",
		"take 0", "take 24", "take 99", "twice 0", "twice 99", "lose 0", "lose 99",
		"crash 5", "crash 99",
		"cut 0 2", "cut 4 0", "cut 1 1", "cut 0 5", "cut 5 0", "cut 99 99", "cut 0 99",
		"mend 0 1", "mend 1 0", "mend 4 3", "mend 2 2", "mend 0 5", "mend 99 1",
	}
}

// rootToldOf is, without the program, the line that tells what the root knows.
func rootToldOf(n impl.Net) string {
	s := noSum()
	for _, e := range n.Nodes[0].Known {
		s = joinedSum(s, e.Sum)
	}
	line := fmt.Sprintf("all %d things ", s.Top.All)
	if kept := s.Few.Kept; len(kept) < 6 {
		line += fmt.Sprint(len(kept))
	} else {
		line += fmt.Sprintf("%d or so", 5*64/(kept[5]+1))
	}
	for thing := range 64 {
		if least, _ := upTo(s.Rank, thing); s.Rank.All > 0 && 2*least >= s.Rank.All {
			line += fmt.Sprintf(" half %d", thing)
			break
		}
	}
	for _, pair := range s.Top.Pairs {
		least, most := toldOf(s, pair.Thing)
		line += fmt.Sprintf(" %d:%d-%d", pair.Thing, least, most)
	}
	return line + "\n"
}

// toldLines are, without the program, what is told of the lines of a text, which of them are done, and the net behind them.
func toldLines(t *testing.T, text string) (told []string, done []string, n impl.Net) {
	t.Helper()
	n = newNet(t, chain)
	for line := range strings.SplitSeq(text, "\n") {
		if line == "" {
			continue
		}
		d, isDeed := allWritten()[line]
		x, can := doneNet(n, d)
		switch {
		case !isDeed:
			told = append(told, "what\n")
		case !can:
			told = append(told, "not "+line+"\n")
		default:
			n = x
			done = append(done, line)
		}
	}
	return told, done, n
}

// toldText is, without the program, what LinesRun has to answer.
func toldText(t *testing.T, text string) string {
	t.Helper()
	if len(text) > 800 {
		return "too long\n"
	}
	told, _, n := toldLines(t, text)
	return strings.Join(told, "") + rootToldOf(n) + rootToldOf(restedNet(n))
}

// heardText lets the root hear of the nodes 1 and 2, and of what they counted; the other two know nothing.
const heardText = "count 1 7\ncount 2 9\ncount 2 9\nhello 0\ntake 0\nhello 1\nlose 0\ntake 0\ntell 2\ntake 0\ntell 1\ntake 0\n"

// edgeTexts has the edges, by names: of sizes, of lines, of what can be done, and of what is counted; all have at most 800 bytes.
func edgeTexts() map[string]string {
	texts := map[string]string{
		"empty":                         "",
		"one newline":                   "\n",
		"one line, without a newline":   "count 0 5",
		"one line, with a newline":      "count 0 5\n",
		"a newline ahead":               "\ncount 0 5",
		"heard":                         heardText,
		"heard, and born anew":          heardText + "crash 0\n",
		"heard, and all born anew":      heardText + "crash 0\ncrash 1\ncrash 2\ncrash 3\ncrash 4",
		"heard, and cut":                heardText + "cut 1 0\ncount 1 8\ntell 1\ncut 0 1\ncount 2 3",
		"cut, and mended":               "cut 1 2\ncut 2 1\ncount 4 1\nmend 2 1\nmend 1 2\n",
		"cut in pieces":                 "cut 0 1\ncut 3 4\ncount 1 1\ncount 2 1\ncount 4 4\n",
		"all linked":                    "mend 0 2\nmend 0 3\nmend 0 4\nmend 1 3\nmend 1 4\nmend 2 4\nmend 4 0\ncount 3 3\ncount 4 63\nhello 0\ntwice 3\ntell 4\n",
		"all words on their way":        strings.Repeat("hello 0\n", 26) + "take 24\ntake 23\nhello 0\nlose 0\ntwice 0\n",
		"the root just 20 times born":   strings.Repeat("crash 0\n", 19) + "count 0 1\n",
		"the root too often born":       strings.Repeat("crash 0\n", 21) + "count 0 1\n",
		"a node just 20 times born":     strings.Repeat("crash 3\n", 19) + "count 3 1\n",
		"a node too often born":         strings.Repeat("crash 3\n", 20) + "count 3 1\n",
		"just 800 newlines":             strings.Repeat("\n", 800),
		"just 800 bytes, of deeds":      strings.Repeat("count 4 63\ncount 4 0\nhello 0\n\n", 26) + "count 1 1\ncount 1 2\n",
		"just 800 bytes, of beacons":    strings.Repeat("beacon\n", 114) + "\n\n",
		"just 800 bytes, of one line":   strings.Repeat("x", 800),
		"just 800 bytes, of blanks":     strings.Repeat(" ", 800),
		"just 800 bytes, of 400 runes":  strings.Repeat("\u00e9", 400),
		"as many lines as there can be": strings.Repeat("x\n", 400),
		"all that cannot be":            strings.Join(impossibleLines(), "\n"),
	}
	for _, num := range []int{1, 2, 3, 4, 5, 6, 7, 8, 9, 16, 64} {
		texts[fmt.Sprintf("%d things of the root", num)] = countText(0, inTurn(num, 1))
		texts[fmt.Sprintf("%d things of others", num)] = countText(3, inTurn(num, 11))
	}
	for num := range 20 {
		texts[fmt.Sprintf("a thing %d times", num)] = countText(0, often(63, num))
		texts[fmt.Sprintf("two things %d times", num)] = countText(4, slices.Concat(often(63, num), often(0, num+1)))
	}
	for a := range 3 {
		for b := range 3 {
			texts[fmt.Sprintf("heard, %d and %d", a, b)] = heardText + countText(0, often(9, a)) + countText(0, inTurn(b*3, 9))
		}
	}
	for name, line := range noDeedTexts() {
		if len(line) < 600 {
			texts["with "+name] = "count 0 5\n" + line + "\ncount 2 3\n"
		}
	}
	return texts
}

// countText are lines by which a node counts that list, as far as they have a place in 800 bytes.
func countText(node int, list []int) string {
	text := ""
	for _, d := range countsOf(node, list) {
		if line := textsOf(d); len(text+line) <= 800 {
			text += line
		}
	}
	return text
}

// someLine is a deed, mostly, that can be now and then; or none, or empty.
func someLine(random *rand.Rand, others []string) string {
	switch random.IntN(14) {
	case 0:
		return ""
	case 1:
		return others[random.IntN(len(others))]
	case 2:
		return textOf(deedOf(1+random.IntN(10), random.IntN(100), 0))
	}
	d := someDeed(random, 5)
	if d.Kind == impl.DeedBeacon {
		d.A = 0
	}
	if numbersBehind(d.Kind) < 2 {
		d.B = 0
	}
	return textOf(d)
}

// someTexts are as many at random, always the same; each has at most 800 bytes.
func someTexts(num int) []string {
	random := rand.New(rand.NewPCG(31, 32))
	others := impossibleLines()
	for _, text := range noDeedTexts() {
		others = append(others, text)
	}
	slices.Sort(others)
	var texts []string
	for i := range num {
		most, text := random.IntN(801), ""
		if i%2 == 0 {
			// So that the root has heard of some already, whatever is done then.
			text = heardText
		}
		for line := someLine(random, others); len(text+line) < most; line = someLine(random, others) {
			text += line + "\n"
		}
		if i%3 == 0 {
			text = strings.TrimSuffix(text, "\n")
		}
		texts = append(texts, text)
	}
	return texts
}

// eachText calls for each of the edges, in the order of names, and for many others.
func eachText(check func(name string, text string)) {
	texts := edgeTexts()
	var names []string
	for name := range texts {
		names = append(names, name)
	}
	slices.Sort(names)
	for _, name := range names {
		check(name, texts[name])
	}
	for _, text := range someTexts(200) {
		check("at random", text)
	}
}
