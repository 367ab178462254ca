package tests

import (
	"fmt"
	"regexp"
	"slices"
	"strconv"
	"strings"

	"loop.example/g00055/impl"
)

const (
	scriptMost = 20000
	linesMost  = 200
)

// A word that is a number: one way of writing alone, nine digits at most.
var wholeNumber = regexp.MustCompile(`^(0|-?[1-9][0-9]{0,8})$`)

// houseBook is the house by rule: its map is none where N is 0.
type houseBook struct {
	text  opText
	gens  []impl.Op
	group []impl.Op
	atoms []impl.Atom
	chart impl.Map
}

func newHouseBook() *houseBook {
	return &houseBook{text: newOpText(), group: []impl.Op{stillOp()}}
}

// linesByRule goes byte by byte: what lies behind the last end of line is one
// more line just if it has a byte.
func linesByRule(text string) []string {
	lines, start := []string{}, 0
	for i := range len(text) {
		if text[i] == 10 {
			lines, start = append(lines, text[start:i]), i+1
		}
	}
	if start < len(text) {
		lines = append(lines, text[start:])
	}
	return lines
}

// shownByRule writes an Op as the document tells.
func shownByRule(o impl.Op) string {
	terms := []string{}
	for i := range 3 {
		term := ""
		for k, n := range o.M[3*i : 3*i+3] {
			if n != 0 {
				term += map[int64]string{1: "+", -1: "-"}[n] + "xyz"[k:k+1]
			}
		}
		term = strings.TrimPrefix(term, "+")
		if n := o.T[i]; n != 0 {
			term += fmt.Sprintf("+%d/%d", n/gcd(n, 24), 24/gcd(n, 24))
		}
		terms = append(terms, term)
	}
	return strings.Join(terms, ",")
}

// numbersByRule: the words as numbers, if there are so many and all are.
func numbersByRule(words []string, count int) ([]int64, bool) {
	numbers := []int64{}
	for _, word := range words {
		if !wholeNumber.MatchString(word) {
			return nil, false
		}
		n, _ := strconv.ParseInt(word, 10, 64)
		numbers = append(numbers, n)
	}
	return numbers, len(numbers) == count
}

// line answers one line, which has a byte.
func (b *houseBook) line(line string) string {
	counts := map[string]int{"clear": 0, "atom": 4, "spread": 0, "factor": 3, "extinct": 3, "paint": 1, "there": 0, "back": 0, "peak": 0, "show": 1}
	if rest, ok := strings.CutPrefix(line, "op "); ok {
		return b.op(rest)
	}
	words := strings.Split(line, " ")
	count, ok := counts[words[0]]
	if !ok {
		return "error 1"
	}
	numbers, ok := numbersByRule(words[1:], count)
	if !ok {
		return "error 1"
	}
	if answer := b.do(words[0], numbers); answer != "" {
		return answer
	}
	return "error 2"
}

func (b *houseBook) op(text string) string {
	o, at := b.text.read(text)
	gens := append(slices.Clone(b.gens), o)
	if at >= 0 || len(gens) > 12 {
		return "error 2"
	}
	group, ok := closeByRule(gens)
	if !ok {
		return "error 2"
	}
	b.gens, b.group = gens, group
	return fmt.Sprint("ok ", len(group))
}

// do answers nothing where it is refused.
func (b *houseBook) do(word string, n []int64) string {
	switch word {
	case "clear":
		*b = houseBook{text: b.text, group: []impl.Op{stillOp()}, chart: b.chart}
		return "ok"
	case "atom":
		atoms := append(slices.Clone(b.atoms), atom(n[0], n[1], n[2], n[3]))
		if !isStructureByRule(atoms) {
			return ""
		}
		b.atoms = atoms
		return fmt.Sprint("ok ", len(atoms))
	case "spread":
		atoms, ok := spreadByRule(b.group, b.atoms)
		if !ok {
			return ""
		}
		b.atoms = atoms
		return fmt.Sprint("ok ", len(atoms))
	case "factor":
		sum, ok := exactByRule(b.atoms, hkl(n[0], n[1], n[2]))
		if !ok {
			return ""
		}
		return fmt.Sprintf("ok %d %d %d %d", sum.A, sum.B, sum.C, sum.D)
	case "extinct":
		h := hkl(n[0], n[1], n[2])
		if !isHklByRule(h) {
			return ""
		}
		return map[bool]string{true: "ok yes", false: "ok no"}[extinctByRule(b.group, h)]
	case "show":
		if n[0] < 0 || n[0] >= int64(len(b.group)) {
			return ""
		}
		return "ok " + shownByRule(b.group[n[0]])
	}
	return b.draw(word, n)
}

// draw: what is done with the map.
func (b *houseBook) draw(word string, n []int64) string {
	var chart impl.Map
	switch word {
	case "paint":
		chart = paintByRule(b.atoms, n[0])
	case "there":
		chart = forwardByRule(b.chart)
	case "back":
		chart = backwardByRule(b.chart)
	default:
		return b.peak()
	}
	if isZeroMap(chart) {
		return ""
	}
	b.chart = chart
	if word != "paint" {
		return fmt.Sprint("ok ", chart.Rho[0])
	}
	sum := int64(0)
	for _, rho := range chart.Rho {
		sum = (sum + rho) % 12289
	}
	return fmt.Sprint("ok ", sum)
}

func (b *houseBook) peak() string {
	if !isMapByRule(b.chart) {
		return ""
	}
	peaks := peaksByRule(b.chart)
	if len(peaks) == 0 {
		return "ok none"
	}
	return fmt.Sprintf("ok %d %d %d %d", peaks[0].X, peaks[0].Y, peaks[0].Z, peaks[0].Rho)
}

func houseByRule(text string) string {
	lines := linesByRule(text)
	if len(text) > scriptMost || len(lines) > linesMost {
		return ""
	}
	b, out := newHouseBook(), ""
	for _, line := range lines {
		if line != "" {
			out += b.line(line) + "\n"
		}
	}
	return out
}

// scriptOf joins lines; the last one has its end.
func scriptOf(lines ...string) string {
	if len(lines) == 0 {
		return ""
	}
	return strings.Join(lines, "\n") + "\n"
}

// answersOf: the lines of an answer.
func answersOf(text string) []string {
	lines := strings.Split(text, "\n")
	return lines[:len(lines)-1]
}

// houseOp: generators of groups of few Ops, nearly always.
func (d *dice) houseOp() string {
	return d.pick("-x,-y,-z", "-x,y,-z", "x,-y,z", "-x,-y,z+1/2", "y,x,-z", "z,x,y", "-y,x-y,z", "x+1/2,y+1/2,z", "x,y+1/2,z+1/2", "-x+1/2,-y,z+1/2", "-y,x,z+1/4", "-y,x,z+1/4", "x,y,z+1/3", "x,y,z", "x + 1/2, y, z", "X,Y,-Z", " x,y,z", "-x,y+1/24,-z")
}

// houseLine: a line that is taken, nearly always, if what is ahead fits.
func (d *dice) houseLine() string {
	number := func(low, high int64) string { return strconv.FormatInt(d.between(low, high), 10) }
	switch d.between(0, 20) {
	case 0, 1:
		return "op " + d.houseOp()
	case 2, 3, 4:
		step := d.between(1, 4)
		at := func() string { return strconv.FormatInt(12/step*d.between(0, step-1), 10) }
		return "atom " + at() + " " + at() + " " + at() + " " + number(-30, 60)
	case 5:
		return "atom " + number(0, 11) + " " + number(0, 11) + " " + number(0, 11) + " " + number(-1000, 1000)
	case 6, 7:
		return "spread"
	case 8, 9:
		return "factor " + number(-5, 5) + " " + number(-5, 5) + " " + number(-100, 100)
	case 10, 11:
		return "extinct " + number(-3, 3) + " " + number(0, 3) + " " + number(-4, 4)
	case 12, 13, 14:
		return "paint " + d.pick("1", "2", "3", "4", "4", "2", "6", "12", "12")
	case 15, 16:
		return "there"
	case 17:
		return "back"
	case 18, 19:
		return "peak"
	}
	return d.pick("show "+number(0, 4), "show "+number(0, 4), "clear")
}

// wrongNumbersAsWords: words that are no numbers.
func wrongNumbersAsWords() []string {
	return []string{
		"", "-", "+", "+1", "-0", "+0", "00", "01", "-01", "007", "1234567890", "-1234567890", "0000000001", "1.0", "1e3", "0x1", "1_0", "x", "1x", "x1",
		"--1", "1-", "-+1", "١", "\t1", "1\t", "1\r", "\x001", "1\xff", "9223372036854775808", "-9223372036854775809", strings.Repeat("9", 400), "NaN", "½",
	}
}

// badLine: a line that is refused, nearly always.
func (d *dice) badLine() string {
	switch d.between(0, 6) {
	case 0:
		return d.pick("op", "op ", "op x,y", "op x,y,z,", "op x,y,z+1/5", "op  ", "op\tx,y,z", "opx,y,z", "op x,x,z", "op 0,y,z", "op x,y,z+", "OP x,y,z")
	case 1:
		return d.pick("atom 12 0 0 1", "atom 0 -1 0 1", "atom 0 0 12 1", "atom 0 0 0 1001", "atom 0 0 0 -1001", "atom 1 2 3", "atom 1 2 3 4 5", "atom", "atom 999999999 0 0 0")
	case 2:
		return d.pick("paint 5", "paint 0", "paint -1", "paint 13", "paint", "paint 1 2", "paint 999999999", "there 1", "back 0", "peak 0", "clear 0", "spread 1", "show", "show -1", "show 192", "show 999999999")
	case 3:
		return d.pick("factor 101 0 0", "factor 0 -101 0", "factor 1 2", "factor 1 2 3 4", "extinct 0 0 101", "extinct 0 -101 1", "extinct", "extinct 1 2 3 4")
	case 4:
		return d.pick("clear ", " clear", "spread ", "there ", " back", "peak  ", " ", "  ", "what", "Clear", "peaks", "pea", "c", "paint 2 ", "paint  2", "atom 1 1 1 1 ", "factor 1  2 3", "\x00", "\xff", "clear\r", "peak\t")
	case 5:
		words := strings.Split(d.houseLine(), " ")
		words[d.between(0, int64(len(words)-1))] = d.pick(wrongNumbersAsWords()...)
		return strings.Join(words, " ")
	}
	return d.anyBytes(d.between(1, 12))
}

// script: lines that are taken, and share of them that are not, of hundred.
func (d *dice) script(count int, share int64) string {
	lines := []string{}
	for range count {
		switch n := d.between(0, 99); {
		case n < share:
			lines = append(lines, d.badLine())
		case n > 96:
			lines = append(lines, "")
		default:
			lines = append(lines, d.houseLine())
		}
	}
	out := strings.Join(lines, "\n")
	if d.between(0, 1) == 0 {
		out += "\n"
	}
	return out
}
