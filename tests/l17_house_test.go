package tests

import (
	"fmt"
	"slices"
	"strconv"
	"strings"
	"sync"
	"testing"

	"loop.example/g00055/impl"
)

func TestHouseLimits(t *testing.T) {
	if impl.MaxScript != scriptMost || impl.MaxLines != linesMost {
		t.Error(impl.MaxScript, impl.MaxLines)
	}
}

// checkHouse holds a script against the reckoning of one's own.
func checkHouse(t *testing.T, text string) string {
	t.Helper()
	got := impl.HouseRun(text)
	if want := houseByRule(text); got != want {
		t.Errorf("%.600q: %.600q, not %.600q", text, got, want)
	}
	return got
}

// checkLines runs lines, each with its answer, as one script.
func checkLines(t *testing.T, lines [][2]string) {
	t.Helper()
	asked := []string{}
	for _, line := range lines {
		asked = append(asked, line[0])
	}
	got := answersOf(checkHouse(t, scriptOf(asked...)))
	if len(got) != len(lines) {
		t.Fatalf("%q", got)
	}
	for i, line := range lines {
		if got[i] != line[1] {
			t.Errorf("%d %q: %q, not %q", i, line[0], got[i], line[1])
		}
	}
}

func TestHouseAtFirst(t *testing.T) {
	checkLines(t, [][2]string{
		{"show 0", "ok x,y,z"}, {"show 1", "error 2"}, {"spread", "ok 0"}, {"factor 1 2 3", "ok 0 0 0 0"}, {"extinct 1 2 3", "ok no"},
		{"there", "error 2"}, {"back", "error 2"}, {"peak", "error 2"}, {"clear", "ok"}, {"there", "error 2"}, {"peak", "error 2"},
		{"paint 12", "ok 0"}, {"peak", "ok none"}, {"there", "error 2"}, {"paint 2", "ok 0"}, {"there", "ok 0"}, {"back", "ok 0"}, {"peak", "ok none"},
	})
}

// P21/c: its Ops rise by their M, its reflections 0 k 0 and h 0 l are there for
// even k and l alone.
func TestHouseOfAGroup(t *testing.T) {
	checkLines(t, [][2]string{
		{"op -x,-y,-z", "ok 2"}, {"op - x, Y + 1/2, -z+2/4", "ok 4"},
		{"show 0", "ok -x,-y,-z"}, {"show 1", "ok -x,y+1/2,-z+1/2"}, {"show 2", "ok x,-y+1/2,z+1/2"}, {"show 3", "ok x,y,z"}, {"show 4", "error 2"},
		{"extinct 0 1 0", "ok yes"}, {"extinct 0 2 0", "ok no"}, {"extinct 1 0 1", "ok yes"}, {"extinct 1 0 2", "ok no"}, {"extinct 1 1 1", "ok no"},
		{"extinct 0 -99 0", "ok yes"}, {"extinct 0 100 0", "ok no"}, {"extinct 0 101 0", "error 2"},
		{"atom 1 2 3 7", "ok 1"}, {"spread", "ok 4"}, {"spread", "ok 4"},
		{"factor 0 0 0", "ok 28 0 0 0"}, {"factor 0 1 0", "ok 0 0 0 0"}, {"factor 0 2 0", "ok -14 0 0 0"}, {"factor 0 0 101", "error 2"},
		{"paint 12", "ok 28"}, {"peak", "ok 1 2 3 7"}, {"there", "error 2"}, {"back", "error 2"}, {"peak", "ok 1 2 3 7"},
		{"paint 6", "error 2"}, {"paint 5", "error 2"}, {"peak", "ok 1 2 3 7"},
	})
}

// The generators stay behind what is refused, and the group is that of all.
func TestHouseOfGenerators(t *testing.T) {
	checkLines(t, [][2]string{
		{"op x,y,z", "ok 1"}, {"op -y,x,z", "ok 4"}, {"op x,y", "error 2"}, {"op z,x,y", "ok 24"}, {"op z,x,y+1/24", "error 2"}, {"show 23", "ok x,y,z"}, {"show 24", "error 2"},
		{"op -x,-y,-z", "ok 48"}, {"op x+1/2,y+1/2,z", "ok 192"}, {"op x+1/2,y,z", "error 2"}, {"op x+1/3,y,z", "error 2"},
		{"show 0", "ok -x,-y,-z"}, {"show 191", "ok x+1/2,y+1/2,z"}, {"show 192", "error 2"}, {"op -z,-x,-y", "ok 192"},
	})
	lines := [][2]string{}
	for range 12 {
		lines = append(lines, [2]string{"op x,y,z", "ok 1"})
	}
	lines = append(lines, [][2]string{{"op -x,-y,-z", "error 2"}, {"op x,y,z", "error 2"}, {"show 1", "error 2"}, {"clear", "ok"}}...)
	for range 11 {
		lines = append(lines, [2]string{"op x,y,z", "ok 1"})
	}
	lines = append(lines, [][2]string{{"op -x,-y,-z", "ok 2"}, {"op x,y,z", "error 2"}}...)
	checkLines(t, lines)
}

// An Op that shears closes to no group, and one that is refused is no generator
// for those behind it.
func TestHouseOfWhatDoesNotClose(t *testing.T) {
	checkLines(t, [][2]string{
		{"op x+y,y,z", "error 2"}, {"show 1", "error 2"}, {"op -x,-y,-z", "ok 2"}, {"op -x,x+y,-z", "ok 4"}, {"op x-y,-y,-z", "error 2"}, {"op x,y,-z", "ok 8"}, {"show 8", "error 2"},
	})
}

// A T that is odd keeps the atoms from being spread; cleared, they are gone, but
// the map is not.
func TestHouseIsCleared(t *testing.T) {
	checkLines(t, [][2]string{
		{"atom 0 0 0 9", "ok 1"}, {"atom 6 0 0 4", "ok 2"}, {"op x,y,z+1/8", "ok 8"}, {"spread", "error 2"}, {"factor 0 0 0", "ok 13 0 0 0"}, {"paint 2", "ok 13"},
		{"clear", "ok"}, {"peak", "ok 0 0 0 9"}, {"factor 0 0 0", "ok 0 0 0 0"}, {"show 0", "ok x,y,z"}, {"show 1", "error 2"}, {"spread", "ok 0"}, {"extinct 0 0 1", "ok no"},
		{"there", "ok 13"}, {"clear", "ok"}, {"back", "ok 9"}, {"peak", "ok 0 0 0 9"}, {"op -x,-y,-z", "ok 2"}, {"spread", "ok 0"}, {"atom 1 1 1 1", "ok 1"}, {"spread", "ok 2"},
	})
}

// Atoms at one place add up, below nothing too; all is modulo 12289.
func TestHousePaintsModuloPrime(t *testing.T) {
	checkLines(t, [][2]string{
		{"atom 0 0 0 -5", "ok 1"}, {"paint 1", "ok 12284"}, {"peak", "ok 0 0 0 12284"}, {"there", "ok 12284"}, {"back", "ok 12284"},
		{"atom 0 0 0 5", "ok 2"}, {"paint 1", "ok 0"}, {"peak", "ok none"}, {"atom 6 6 6 2", "ok 3"}, {"paint 2", "ok 2"}, {"peak", "ok 1 1 1 2"}, {"paint 3", "error 2"}, {"peak", "ok 1 1 1 2"},
	})
	lines := [][2]string{}
	for i := range 13 {
		lines = append(lines, [2]string{fmt.Sprintf("atom %d 0 0 1000", 2*(i%6)), fmt.Sprint("ok ", i+1)})
	}
	// Three at the first place, two at each other one: 13000 less 12289.
	checkLines(t, append(lines, [][2]string{{"paint 6", "ok 711"}, {"there", "ok 711"}, {"back", "ok 3000"}, {"peak", "ok 0 0 0 3000"}}...))
}

// eightFold: generators of eight Ops, and count atoms that each have eight places.
func eightFold(count int) []string {
	lines := []string{"op -x,y,z", "op x,-y,z", "op x,y,-z"}
	for i := range count {
		lines = append(lines, fmt.Sprintf("atom %d %d 1 %d", i/5%5+1, i%5+1, i/25+1))
	}
	return lines
}

func TestHouseTakesMaxAtomsAndNoMore(t *testing.T) {
	last := func(lines ...string) []string {
		answers := answersOf(checkHouse(t, scriptOf(lines...)))
		return answers[max(0, len(answers)-3):]
	}
	if got := last(append(eightFold(25), "spread", "atom 0 0 0 1", "factor 0 0 0")...); !slices.Equal(got, []string{"ok 200", "error 2", "ok 200 0 0 0"}) {
		t.Errorf("%q", got)
	}
	if got := last(append(eightFold(26), "spread", "atom 0 0 0 1", "factor 0 0 0")...); !slices.Equal(got, []string{"error 2", "ok 27", "ok 28 0 0 0"}) {
		t.Errorf("%q", got)
	}
	many := slices.Repeat([]string{"atom 11 11 11 -1000"}, linesMost-1)
	if got := last(append(many, "factor 0 0 0")...); got[0] != "ok 198" || got[1] != "ok 199" || got[2] != "ok -199000 0 0 0" {
		t.Errorf("%q", got)
	}
	all := append(eightFold(24), "spread")
	for range 8 {
		all = append(all, "atom 0 0 0 1")
	}
	if got := last(append(all, "atom 0 0 0 1", "factor 0 0 0")...); !slices.Equal(got, []string{"ok 200", "error 2", "ok 200 0 0 0"}) {
		t.Errorf("%q", got)
	}
}

func TestHouseAtoms(t *testing.T) {
	lines := [][2]string{
		{"atom 0 0 0 0", "ok 1"}, {"atom 11 11 11 1000", "ok 2"}, {"atom 0 11 0 -1000", "ok 3"},
		{"atom 12 0 0 1", "error 2"}, {"atom 0 12 0 1", "error 2"}, {"atom 0 0 12 1", "error 2"}, {"atom -1 0 0 1", "error 2"}, {"atom 0 -1 0 1", "error 2"},
		{"atom 0 0 -1 1", "error 2"}, {"atom 0 0 0 1001", "error 2"}, {"atom 0 0 0 -1001", "error 2"}, {"atom 999999999 0 0 1", "error 2"}, {"atom 0 0 0 -999999999", "error 2"},
		{"factor 0 0 0", "ok 0 0 0 0"}, {"atom 1 2 3 4", "ok 4"},
		// 4 w to the power 1; 1000 w to the power 11, which is w - w³; -1000 at 0 11 0 is -1000.
		{"factor 1 0 0", "ok -1000 1004 0 -1000"},
	}
	checkLines(t, lines)
}

// Lines without a byte, ends of lines, words without bytes.
func TestHouseLinesAndWords(t *testing.T) {
	for text, want := range map[string]string{
		"":                      "",
		"\n":                    "",
		"\n\n\n":                "",
		"clear":                 "ok\n",
		"clear\n":               "ok\n",
		"clear\n\n":             "ok\n",
		"\nclear":               "ok\n",
		"\n\nclear\n\n\nclear":  "ok\nok\n",
		"clear\nclear":          "ok\nok\n",
		" ":                     "error 1\n",
		"  ":                    "error 1\n",
		"\n \n":                 "error 1\n",
		"clear\n ":              "ok\nerror 1\n",
		" clear":                "error 1\n",
		"clear ":                "error 1\n",
		"clear  ":               "error 1\n",
		"clear x":               "error 1\n",
		"clear 1":               "error 1\n",
		"clear clear":           "error 1\n",
		"Clear":                 "error 1\n",
		"clea":                  "error 1\n",
		"clearx":                "error 1\n",
		"spread ":               "error 1\n",
		"spread 1":              "error 1\n",
		"there ":                "error 1\n",
		"there":                 "error 2\n",
		"there there":           "error 1\n",
		"back ":                 "error 1\n",
		"back":                  "error 2\n",
		"peak ":                 "error 1\n",
		"peak":                  "error 2\n",
		"peak 1":                "error 1\n",
		"show":                  "error 1\n",
		"show ":                 "error 1\n",
		"show 0":                "ok x,y,z\n",
		" show 0":               "error 1\n",
		"show  0":               "error 1\n",
		"show 0 ":               "error 1\n",
		"show 0 0":              "error 1\n",
		"show 1":                "error 2\n",
		"show -1":               "error 2\n",
		"show 00":               "error 1\n",
		"show -0":               "error 1\n",
		"show +0":               "error 1\n",
		"show x":                "error 1\n",
		"paint":                 "error 1\n",
		"paint ":                "error 1\n",
		"paint 1":               "ok 0\n",
		"paint 1 ":              "error 1\n",
		"paint  1":              "error 1\n",
		"paint 1 1":             "error 1\n",
		"paint 0":               "error 2\n",
		"paint -2":              "error 2\n",
		"paint 5":               "error 2\n",
		"paint 24":              "error 2\n",
		"paint 999999999":       "error 2\n",
		"paint 1000000000":      "error 1\n",
		"paint x":               "error 1\n",
		"atom":                  "error 1\n",
		"atom 1 2 3":            "error 1\n",
		"atom 1 2 3 4":          "ok 1\n",
		"atom 1 2 3 4 5":        "error 1\n",
		"atom 1 2 3 ":           "error 1\n",
		"atom 1 2 3 4 ":         "error 1\n",
		"atom  1 2 3 4":         "error 1\n",
		"atom 1 2  3 4":         "error 1\n",
		"atom  1 2 3":           "error 1\n",
		"atom 12 0 0 x":         "error 1\n",
		"atom x 0 0 1001":       "error 1\n",
		"atom 12 0 0":           "error 1\n",
		"factor":                "error 1\n",
		"factor 1 2":            "error 1\n",
		"factor 1 2 3":          "ok 0 0 0 0\n",
		"factor 1 2 3 4":        "error 1\n",
		"factor 101 2 x":        "error 1\n",
		"factor 101 2 3":        "error 2\n",
		"factor 1 -101 3":       "error 2\n",
		"factor 100 -100 100":   "ok 0 0 0 0\n",
		"extinct":               "error 1\n",
		"extinct 1 2":           "error 1\n",
		"extinct 1 2 3":         "ok no\n",
		"extinct 1 2 3 4":       "error 1\n",
		"extinct 101 2":         "error 1\n",
		"extinct 101 2 3":       "error 2\n",
		"extinct 1 101 3":       "error 2\n",
		"extinct 1 2 -101":      "error 2\n",
		"extinct -100 100 -100": "ok no\n",
		"op":                    "error 1\n",
		"op ":                   "error 2\n",
		"op  ":                  "error 2\n",
		"op x,y,z":              "ok 1\n",
		"op  x,y,z":             "ok 1\n",
		"op x,y,z ":             "ok 1\n",
		"op x, y, z":            "ok 1\n",
		"op  -x , - y,  -z  ":   "ok 2\n",
		"op x,y":                "error 2\n",
		"op x,y,z,":             "error 2\n",
		"op x,y,z\r":            "error 2\n",
		" op x,y,z":             "error 1\n",
		"opx,y,z":               "error 1\n",
		"op\tx,y,z":             "error 1\n",
		"OP x,y,z":              "error 1\n",
		"what":                  "error 1\n",
		"what 1":                "error 1\n",
		"ok":                    "error 1\n",
		"error 1":               "error 1\n",
	} {
		if got := checkHouse(t, text); got != want {
			t.Errorf("%q: %q, not %q", text, got, want)
		}
		if text != "" && !strings.HasSuffix(text, "\n") {
			for _, around := range [][2]string{{"", "\n"}, {"\n", "\n\n"}} {
				if got := checkHouse(t, around[0]+text+around[1]); got != want {
					t.Errorf("%q: %q, not %q", around[0]+text+around[1], got, want)
				}
			}
		}
	}
}

// Each word that should be a number, in each place of each line.
func TestHouseNumbers(t *testing.T) {
	lines := []string{"atom 1 2 3 4", "factor 1 2 3", "extinct 1 2 3", "paint 2", "show 0"}
	right := []string{"0", "1", "-1", "9", "10", "-10", "100", "101", "123456789", "-123456789", "999999999", "-999999999", "100000000"}
	for _, line := range lines {
		words := strings.Split(line, " ")
		for at := 1; at < len(words); at++ {
			for _, word := range wrongNumbersAsWords() {
				put := slices.Clone(words)
				put[at] = word
				if got := checkHouse(t, strings.Join(put, " ")); got != "error 1\n" {
					t.Errorf("%q: %q", put, got)
				}
			}
			for _, word := range right {
				put := slices.Clone(words)
				put[at] = word
				if got := checkHouse(t, strings.Join(put, " ")); got == "error 1\n" || got == "" {
					t.Errorf("%q: %q", put, got)
				}
			}
		}
		for count := range 7 {
			if count == len(words)-1 {
				continue
			}
			if got := checkHouse(t, words[0]+strings.Repeat(" 1", count)); got != "error 1\n" {
				t.Errorf("%q %d: %q", words[0], count, got)
			}
		}
	}
}

// Each byte ahead of a line, behind it, in the place of a blank, and alone.
func TestHouseBytes(t *testing.T) {
	for b := range 256 {
		one := string([]byte{byte(b)})
		for _, text := range []string{
			one, one + "clear", "clear" + one, "cl" + one + "ear", "show" + one + "0", "show " + one, "show 0" + one, "show " + one + "0", "op " + one, "op" + one + "x,y,z",
			"op x,y,z" + one, "op x" + one + ",y,z", "clear\n" + one + "\nclear", "atom 1 2 3" + one + "4",
		} {
			checkHouse(t, text)
		}
		if b != '\n' {
			if got := impl.HouseRun("clear" + one + "\nclear"); got != "error 1\nok\n" {
				t.Errorf("%q %q", one, got)
			}
		}
	}
	for _, text := range []string{"\xff\xfe\n\x80", "cl\xc3\xa9ar", "op \xe2\x88\x92x,y,z", "\x00\n\x00", "show \x00", "\u00a0", "clear\u2028clear", "clear\r\nclear\r\n", "\xef\xbb\xbfclear"} {
		if got := checkHouse(t, text); strings.Trim(got, "error 12\n") != "" {
			t.Errorf("%q %q", text, got)
		}
	}
}

func TestHouseTakesMaxLinesAndNoMore(t *testing.T) {
	lines := func(count int, line string) string { return strings.Repeat(line+"\n", count) }
	answer := func(count int) string { return strings.Repeat("ok\n", count) }
	for _, c := range []struct{ text, want string }{
		{lines(linesMost-1, "clear"), answer(linesMost - 1)},
		{lines(linesMost, "clear"), answer(linesMost)},
		{lines(linesMost-1, "clear") + "clear", answer(linesMost)},
		{lines(linesMost-1, "clear") + " ", answer(linesMost-1) + "error 1\n"},
		{lines(linesMost, "clear") + "clear", ""},
		{lines(linesMost, "clear") + " ", ""},
		{lines(linesMost, "clear") + "\n", ""},
		{lines(linesMost+1, "clear"), ""},
		{lines(linesMost-1, "") + "clear", "ok\n"},
		{lines(linesMost-1, "") + "clear\n", "ok\n"},
		{lines(linesMost, "") + "clear", ""},
		{"clear\n" + lines(linesMost-1, ""), "ok\n"},
		{"clear\n" + lines(linesMost, ""), ""},
		{lines(linesMost, ""), ""},
		{lines(linesMost+1, ""), ""},
		{lines(10000, ""), ""},
	} {
		if got := checkHouse(t, c.text); got != c.want {
			t.Errorf("%d lines, %d bytes: %.100q", strings.Count(c.text, "\n"), len(c.text), got)
		}
	}
}

func TestHouseTakesMaxScriptAndNoMore(t *testing.T) {
	for _, fill := range []string{" ", "x", "\x00", "\xff", "9"} {
		for _, ahead := range []string{"", "clear\n", "op ", "show 0\nop -x,-y,-z", "show "} {
			for _, end := range []string{"", "\n", "\nclear", "\nclear\n"} {
				just := ahead + strings.Repeat(fill, scriptMost-len(ahead)-len(end)) + end
				if got := checkHouse(t, just); len(just) != scriptMost || got == "" {
					t.Errorf("%q %q %q: %.100q", ahead, fill, end, got)
				}
				if got := checkHouse(t, ahead+just[len(ahead):len(just)-len(end)]+fill+end); got != "" {
					t.Errorf("%q %q %q: %.100q", ahead, fill, end, got)
				}
			}
		}
	}
	// Lines of hundred bytes, as many as there may be: both limits at once.
	line := "op x,y,z" + strings.Repeat(" ", 100-len("op x,y,z")-1) + "\n"
	both := strings.Repeat(line, linesMost)
	if got := impl.HouseRun(both); len(both) != scriptMost || strings.Count(got, "\n") != linesMost || !strings.HasPrefix(got, "ok 1\n") {
		t.Errorf("%d %.100q", len(both), got)
	}
	for _, past := range []string{both + "x", both + "\n", " " + both} {
		if got := impl.HouseRun(past); got != "" {
			t.Errorf("%.100q", got)
		}
	}
	if got := impl.HouseRun(strings.Repeat("clear", 2000000)); got != "" {
		t.Error(len(got))
	}
}

func TestHouseByRule(t *testing.T) {
	var d dice
	words := map[string]int{}
	for i := range 900 {
		text := d.script(int(d.between(1, 40)), int64(10*(i%3)))
		got := answersOf(checkHouse(t, text))
		asked := slices.DeleteFunc(linesByRule(text), func(line string) bool { return line == "" })
		if len(got) != len(asked) {
			t.Fatalf("%q %q", text, got)
		}
		for k, line := range asked {
			word, _, _ := strings.Cut(line, " ")
			answer, _, _ := strings.Cut(got[k], " ")
			if answer == "error" {
				answer = got[k]
			}
			words[word+" "+answer]++
		}
	}
	for _, word := range []string{"op", "clear", "atom", "spread", "factor", "extinct", "paint", "there", "back", "peak", "show"} {
		if words[word+" ok"] < 60 || words[word+" error 1"] < 1 || word != "clear" && words[word+" error 2"] < 10 {
			t.Error("too few of", word, words[word+" ok"], words[word+" error 1"], words[word+" error 2"])
		}
	}
}

// A line that is refused changes nothing: without such lines the others are
// answered alike.
func TestHouseRefusedChangesNothing(t *testing.T) {
	var d dice
	left := 0
	for range 800 {
		text := d.script(int(d.between(5, 60)), 45)
		asked := slices.DeleteFunc(linesByRule(text), func(line string) bool { return line == "" })
		answers := answersOf(impl.HouseRun(text))
		taken, want := []string{}, []string{}
		for i, answer := range answers {
			if !strings.HasPrefix(answer, "error ") {
				taken, want = append(taken, asked[i]), append(want, answer)
			} else {
				left++
			}
		}
		if got := answersOf(impl.HouseRun(scriptOf(taken...))); !slices.Equal(got, want) {
			t.Errorf("%q: %q, not %q", text, got, want)
		}
	}
	if left < 1000 {
		t.Error("too few are refused:", left)
	}
	// Each kind of refusal by itself, in a house in which all has been done.
	ahead := []string{"op -x,-y,-z", "op -x,y,-z", "atom 2 4 6 5", "atom 0 0 0 3", "spread", "paint 6"}
	probe := []string{"peak", "show 0", "show 3", "show 4", "factor 1 2 3", "extinct 0 1 0", "spread", "there", "peak", "back", "peak", "paint 6", "op x+1/2,y+1/2,z", "spread", "paint 6", "peak"}
	want := answersOf(impl.HouseRun(scriptOf(slices.Concat(ahead, probe)...)))[len(ahead):]
	for _, bad := range []string{
		"op", "op ", "op x,y", "op x+y,y,z", "op x+1/24,y+1/24,z", "op y,z", "atom 12 0 0 1", "atom 0 0 0 1001", "atom 0 0 0", "atom 0 0 0 x", "spread 1", "factor 101 0 0", "factor 1 2",
		"extinct 101 0 0", "extinct", "paint 5", "paint 1", "paint 4", "paint x", "there 1", "back 1", "peak 1", "show 4", "show -1", "show", "clear ", "clear 1", "what", " ",
	} {
		lines := slices.Concat(ahead, []string{bad}, probe)
		got := answersOf(checkHouse(t, scriptOf(lines...)))
		if !strings.HasPrefix(got[len(ahead)], "error ") || !slices.Equal(got[len(ahead)+1:], want) {
			t.Errorf("%q: %q", bad, got[len(ahead):])
		}
	}
}

// P22: what is painted of the atoms that were spread is there again behind there
// and back; its sum is what there tells, its first number what back tells.
func TestHousePaintsAsItWas(t *testing.T) {
	var d dice
	told, peaks := 0, 0
	for _, s := range evenSpaces() {
		g := spaceGroup(t, s.name)
		for _, n := range smallSides() {
			for range 2 {
				lines := []string{}
				for _, gen := range s.gens {
					lines = append(lines, "op "+gen)
				}
				atoms := d.atomsOn(n, int(d.between(1, 3)))
				for _, a := range atoms {
					lines = append(lines, fmt.Sprintf("atom %d %d %d %d", a.X, a.Y, a.Z, a.F))
				}
				lines = append(lines, "spread", "paint "+strconv.FormatInt(n, 10), "peak", "there", "back", "peak", "there", "there", "back", "back", "peak")
				got := answersOf(impl.HouseRun(scriptOf(lines...)))
				got = got[len(s.gens)+len(atoms):]
				spread, ok := spreadByRule(g, atoms)
				painted := paintByRule(spread, n)
				if !ok || isZeroMap(painted) {
					if got[0] != "error 2" && got[1] != "error 2" {
						t.Errorf("%s %v %q", s.name, atoms, got)
					}
					continue
				}
				told++
				sum := painted.Rho[0]
				for _, rho := range painted.Rho[1:] {
					sum = (sum + rho) % 12289
				}
				first := fmt.Sprint("ok ", painted.Rho[0])
				if got[1] != fmt.Sprint("ok ", sum) || got[3] != got[1] || got[4] != first || got[5] != got[2] || got[6] != got[1] || got[9] != first || got[10] != got[2] {
					t.Errorf("%s %v %q", s.name, atoms, got)
				}
				if got[2] != "ok none" {
					peaks++
				}
				if behind := impl.Backward(impl.Forward(impl.Paint(spread, n))); !sameMap(behind, painted) {
					t.Errorf("%s %v %v", s.name, atoms, behind)
				}
			}
		}
	}
	if told < 60 || peaks < 40 {
		t.Error("too few are painted:", told, peaks)
	}
}

// A script from generators over atoms, spread, paint, there, back to peak, each
// number worked through by hand: four points around the axis, turned by 90
// degrees, and a mirror across it.
func TestHouseFromGeneratorsToPeak(t *testing.T) {
	checkLines(t, [][2]string{
		{"op -y,x,z", "ok 4"}, {"op x,y,-z", "ok 8"}, {"atom 3 0 6 20", "ok 1"}, {"atom 0 0 0 50", "ok 2"}, {"atom 6 6 0 7", "ok 3"}, {"spread", "ok 6"},
		{"factor 0 0 1", "ok -23 0 0 0"}, {"factor 2 0 0", "ok 57 0 0 0"}, {"extinct 1 0 0", "ok no"},
		{"paint 4", "ok 137"}, {"peak", "ok 0 0 0 50"}, {"there", "ok 137"}, {"back", "ok 50"}, {"peak", "ok 0 0 0 50"}, {"back", "ok 10563"}, {"there", "ok 50"}, {"peak", "ok 0 0 0 50"},
		{"clear", "ok"}, {"peak", "ok 0 0 0 50"}, {"paint 4", "ok 0"}, {"peak", "ok none"},
	})
}

func TestHouseAnswersAreNewMemory(t *testing.T) {
	var d dice
	for range 100 {
		text := strings.Clone(d.script(20, 20))
		want := strings.Clone(text)
		first := impl.HouseRun(text)
		second := impl.HouseRun(text)
		if sharesText(first, text) || sharesText(first, second) || text != want || first != second {
			t.Errorf("%q", text)
		}
	}
}

// Every call answers the same, whatever was asked ahead, one behind the other
// and all at once.
func TestHouseAnswersTheSame(t *testing.T) {
	checks := [][2]string{
		{"op -x,-y,-z\natom 1 2 3 4\nspread\npaint 12\n", "ok 2\nok 1\nok 2\nok 8\n"},
		{"show 1\npeak\nfactor 0 0 0\nop x,y,z", "error 2\nerror 2\nok 0 0 0 0\nok 1\n"},
		{"clear\nspread\nthere", "ok\nok 0\nerror 2\n"},
	}
	for range 3 {
		for _, c := range checks {
			if got := impl.HouseRun(c[0]); got != c[1] {
				t.Errorf("%q %q", c[0], got)
			}
		}
	}
	var all sync.WaitGroup
	for start := range 8 {
		all.Go(func() {
			d := dice(start)
			texts, want := []string{}, []string{}
			for range 6 {
				text := d.script(20, 15)
				texts, want = append(texts, text), append(want, houseByRule(text))
			}
			for round := range 10 {
				for i := range texts {
					at := (i*5 + round) % len(texts)
					if got := impl.HouseRun(texts[at]); got != want[at] {
						t.Errorf("%q %q", texts[at], got)
					}
				}
			}
		})
	}
	all.Wait()
}

func TestHouseAnswersAtEveryArgument(t *testing.T) {
	var d dice
	for range 3000 {
		checkHouse(t, d.anyBytes(d.between(0, 40)))
		checkHouse(t, d.badLine()+"\n"+d.badLine())
		checkHouse(t, d.spoilt("op x,-y,z+1/2\natom 1 2 3 4\nfactor 1 2 3\nshow 1"))
	}
}
