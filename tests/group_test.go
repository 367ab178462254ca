package tests

import (
	"slices"
	"strconv"
	"testing"

	"loop.example/g00055/impl"
)

func mustOps(t *testing.T, texts ...string) []impl.Op {
	t.Helper()
	list := []impl.Op{}
	for _, s := range texts {
		list = append(list, mustOp(t, s))
	}
	return list
}

func mustClose(t *testing.T, texts ...string) []impl.Op {
	t.Helper()
	g, ok := impl.Close(mustOps(t, texts...))
	if !ok {
		t.Fatal(texts)
	}
	return g
}

// space: a group of which the books tell generators and orders; shifts is how
// many of its Ops only shift.
type space struct {
	name          string
	gens          []string
	order, shifts int
}

func spaces() []space {
	return []space{
		{"P1", nil, 1, 1},
		{"P-1", []string{"-x,-y,-z"}, 2, 1},
		{"P2", []string{"-x,y,-z"}, 2, 1},
		{"P21", []string{"-x,y+1/2,-z"}, 2, 1},
		{"Pm", []string{"x,-y,z"}, 2, 1},
		{"C2/c", []string{"-x,y,-z+1/2", "-x,-y,-z", "x+1/2,y+1/2,z"}, 8, 2},
		{"P21/c", []string{"-x,-y,-z", "-x,y+1/2,-z+1/2"}, 4, 1},
		{"P212121", []string{"-x+1/2,-y,z+1/2", "-x,y+1/2,-z+1/2"}, 4, 1},
		{"Pnma", []string{"-x+1/2,-y,z+1/2", "-x,y+1/2,-z", "-x,-y,-z"}, 8, 1},
		{"P41", []string{"-y,x,z+1/4"}, 4, 1},
		{"I41/amd", []string{"-x+1/2,-y,z+1/2", "-y+1/4,x+3/4,z+1/4", "-x+1/2,y,-z+1/2", "-x,-y,-z", "x+1/2,y+1/2,z+1/2"}, 32, 2},
		{"P3", []string{"-y,x-y,z"}, 3, 1},
		{"P31", []string{"-y,x-y,z+1/3"}, 3, 1},
		{"R-3m", []string{"-y,x-y,z", "y,x,-z", "-x,-y,-z", "x+2/3,y+1/3,z+1/3"}, 36, 3},
		{"P6122", []string{"-y,x-y,z+1/3", "-x,-y,z+1/2", "y,x,-z+1/3"}, 12, 1},
		{"P6/mmm", []string{"x-y,x,z", "y,x,-z", "-x,-y,-z"}, 24, 1},
		{"P63/mmc", []string{"-y,x-y,z", "-x,-y,z+1/2", "y,x,-z", "-x,-y,-z"}, 24, 1},
		{"Pm-3m", []string{"-y,x,z", "z,x,y", "-x,-y,-z"}, 48, 1},
		{"Im-3m", []string{"-y,x,z", "z,x,y", "-x,-y,-z", "x+1/2,y+1/2,z+1/2"}, 96, 2},
		{"Ia-3d", []string{"-x+1/2,-y,z+1/2", "-x,y+1/2,-z+1/2", "z,x,y", "y+3/4,x+1/4,-z+1/4", "-x,-y,-z", "x+1/2,y+1/2,z+1/2"}, 96, 2},
		{"Fm-3m", []string{"-y,x,z", "z,x,y", "-x,-y,-z", "x+1/2,y+1/2,z", "x,y+1/2,z+1/2"}, 192, 4},
		{"Fd-3m", []string{"-x+3/4,-y+1/4,z+1/2", "-x+1/4,y+1/2,-z+3/4", "z,x,y", "y+3/4,x+1/4,-z+1/2", "-x,-y,-z", "x,y+1/2,z+1/2", "x+1/2,y,z+1/2"}, 192, 4},
		{"shifts alone", []string{"x+1/24,y,z", "x,y+1/8,z"}, 192, 192},
		{"a slanting axis", []string{"-x,x+y,-z"}, 2, 1},
	}
}

// numbersOf: an Op as one value.
func numbersOf(o impl.Op) [12]int64 { return [12]int64(slices.Concat(o.M, o.T)) }

func sortedByRule(list []impl.Op) []impl.Op {
	out := slices.Clone(list)
	slices.SortFunc(out, func(a, b impl.Op) int { return int(compareByRule(a, b)) })
	return out
}

func sameOps(a, b []impl.Op) bool { return slices.EqualFunc(a, b, sameOp) }

func cloneOps(list []impl.Op) []impl.Op {
	out := []impl.Op{}
	for _, o := range list {
		out = append(out, cloneOp(o))
	}
	return out
}

func placeByRule(list []impl.Op, o impl.Op) int {
	return slices.IndexFunc(list, func(p impl.Op) bool { return sameOp(o, p) })
}

// isGroupByRule asks each word of what a group is by itself.
func isGroupByRule(g []impl.Op) bool {
	if len(g) > 192 {
		return false
	}
	members := map[[12]int64]int{}
	for i, o := range g {
		if !rightByRule(o) || i > 0 && compareByRule(g[i-1], o) != -1 {
			return false
		}
		members[numbersOf(o)] = i
	}
	for _, a := range g {
		for _, b := range g {
			if _, ok := members[numbersOf(productByRule(a, b))]; !ok {
				return false
			}
		}
	}
	_, ok := members[numbersOf(stillOp())]
	return ok
}

// closeByRule multiplies every two until nothing new comes.
func closeByRule(gens []impl.Op) ([]impl.Op, bool) {
	list := []impl.Op{stillOp()}
	members := map[[12]int64]int{numbersOf(stillOp()): 0}
	take := func(o impl.Op) bool {
		if !rightByRule(o) {
			return false
		}
		if _, ok := members[numbersOf(o)]; !ok {
			members[numbersOf(o)] = len(list)
			list = append(list, o)
		}
		return len(list) <= 192
	}
	for _, o := range gens {
		if !take(o) {
			return nil, false
		}
	}
	for i := 0; i < len(list); i++ {
		for k := 0; k <= i; k++ {
			if !take(productByRule(list[i], list[k])) || !take(productByRule(list[k], list[i])) {
				return nil, false
			}
		}
	}
	return sortedByRule(list), true
}

// framesByRule: of all turns those with one number in each row and column.
func framesByRule() []impl.Op {
	list := []impl.Op{}
	for _, m := range turns() {
		count := 0
		for _, n := range m {
			if n != 0 {
				count++
			}
		}
		if count == 3 {
			list = append(list, impl.Op{M: m, T: make([]int64, 3)})
		}
	}
	return sortedByRule(list)
}

// turnedByRule: first the way back, then o, then by; each product on the way
// from the left has to be right.
func turnedByRule(g []impl.Op, by impl.Op) ([]impl.Op, bool) {
	back := impl.Op{M: turnBackByRule(by.M), T: make([]int64, 3)}
	shift := productByRule(back, by).T
	for i := range shift {
		back.T[i] = (24 - shift[i]) % 24
	}
	if !rightByRule(back) {
		return nil, false
	}
	out := []impl.Op{}
	for _, o := range g {
		half := productByRule(by, o)
		if !rightByRule(half) || !rightByRule(productByRule(half, back)) {
			return nil, false
		}
		out = append(out, productByRule(half, back))
	}
	return sortedByRule(out), true
}

func sameKindByRule(a, b []impl.Op) bool {
	for _, by := range framesByRule() {
		if got, ok := turnedByRule(a, by); ok && sameOps(got, b) {
			return true
		}
	}
	return false
}

func cosetsByRule(g, h []impl.Op) [][]impl.Op {
	out := [][]impl.Op{}
	for _, o := range g {
		if slices.ContainsFunc(out, func(part []impl.Op) bool { return placeByRule(part, o) >= 0 }) {
			continue
		}
		part := []impl.Op{}
		for _, p := range h {
			part = append(part, productByRule(o, p))
		}
		out = append(out, sortedByRule(part))
	}
	return out
}

// notGroups: lists that are no group, most of them by one thing alone.
func notGroups(t *testing.T) map[string][]impl.Op {
	g := mustClose(t, "-x,-y,-z", "-x,y+1/2,-z+1/2")
	many := []impl.Op{}
	for n := range int64(216) {
		o := stillOp()
		o.T = []int64{n / 36 * 4, n / 6 % 6 * 4, n % 6 * 4}
		many = append(many, o)
	}
	out := map[string][]impl.Op{
		"nothing at all":       nil,
		"an empty list":        {},
		"falling":              {g[3], g[2], g[1], g[0]},
		"two in wrong order":   {g[0], g[2], g[1], g[3]},
		"the last ones twice":  {g[0], g[1], g[2], g[3], g[3]},
		"the first one twice":  {g[0], g[0], g[1], g[2], g[3]},
		"one alone twice":      {g[3], g[3]},
		"lacks a product":      {g[0], g[1], g[3]},
		"lacks another one":    {g[0], g[2], g[3]},
		"lacks what is still":  {g[0], g[1], g[2]},
		"one that is not":      {g[0]},
		"lacks a shift":        mustOps(t, "-y,x,z+1/4", "x,y,z"),
		"endless":              mustOps(t, "x,y,z", "x+y,y,z"),
		"two that do not fit":  sortedByRule(mustOps(t, "-x,x+y,-z", "x-y,-y,-z", "x,y,z")),
		"more than there may":  many,
		"one more by its copy": append(mustClose(t, "x+1/24,y,z", "x,y+1/8,z"), mustOp(t, "x+23/24,y+7/8,z")),
	}
	for i, o := range wrongOps() {
		out["wrong ahead "+strconv.Itoa(i)] = append([]impl.Op{o}, g...)
		out["wrong behind "+strconv.Itoa(i)] = append(slices.Clone(g), o)
		out["wrong alone "+strconv.Itoa(i)] = []impl.Op{o}
	}
	return out
}

// listsOf: the lists of numbers of which Ops are made.
func listsOf(ops ...impl.Op) [][]int64 {
	out := [][]int64{}
	for _, o := range ops {
		out = append(out, o.M, o.T)
	}
	return out
}

// withRoom is the same list in memory that goes on behind it, and behind each
// list of numbers; guard tells whether all of it is as it was.
func withRoom(ops []impl.Op) (list []impl.Op, guard func() bool) {
	whole := []int64{}
	for _, o := range ops {
		whole = append(append(whole, o.M...), 77)
		whole = append(append(whole, o.T...), 78, 79)
	}
	list = []impl.Op{}
	rest := whole
	for _, o := range ops {
		m, t := len(o.M), len(o.T)
		list = append(list, impl.Op{M: rest[:m], T: rest[m+1 : m+1+t]})
		rest = rest[m+t+3:]
	}
	room := append(list, impl.Op{M: []int64{80}}, impl.Op{T: []int64{81}})
	wantNumbers, wantOps := slices.Clone(whole), cloneOps(room)
	return room[:len(list)], func() bool {
		return slices.Equal(whole, wantNumbers) && sameOps(room, wantOps)
	}
}

// spoil writes over all that an answer's memory has, and behind its length.
func spoil(ops []impl.Op) {
	for _, list := range listsOf(ops...) {
		list = list[:cap(list)]
		for i := range list {
			list[i] = -9
		}
	}
	ops = ops[:cap(ops)]
	for i := range ops {
		ops[i] = impl.Op{M: []int64{-9}}
	}
}

// shareNothing: each list is filled with a number of its own, behind its
// length too, which no other list is to have changed then.
func shareNothing(lists [][]int64) bool {
	for i, list := range lists {
		list = list[:cap(list)]
		for k := range list {
			list[k] = int64(1000 + i)
		}
	}
	for i, list := range lists {
		for _, n := range list[:cap(list)] {
			if n != int64(1000+i) {
				return false
			}
		}
	}
	return true
}
