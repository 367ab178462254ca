package tests

import (
	"cmp"
	"math"
	"slices"
	"sync"

	"loop.example/g00055/impl"
)

// The limits of chapter 13 as the document writes them.
const (
	spotAtMost      = 1000
	spotsMost       = 16
	reflectionsMost = 64
	exposuresMost   = 12
)

// spotsAt: spots at the places x, y, x, y, .., whose peaks are all unlike.
func spotsAt(numbers ...int64) []impl.Spot {
	out := []impl.Spot{}
	for i := 0; i+1 < len(numbers); i += 2 {
		out = append(out, impl.Spot{X: numbers[i], Y: numbers[i+1], Peak: int64(7*i) - 20})
	}
	return out
}

func basisOf(ax, ay, bx, by int64) impl.Basis { return impl.Basis{AX: ax, AY: ay, BX: bx, BY: by} }

func basisNumbers(b impl.Basis) []int64 { return []int64{b.AX, b.AY, b.BX, b.BY} }

func areaOf(b impl.Basis) int64 { return b.AX*b.BY - b.AY*b.BX }

func areSpotsByRule(list []impl.Spot) bool {
	for _, s := range list {
		if !allFrom([]int64{s.X, s.Y}, 0, spotAtMost) {
			return false
		}
	}
	return len(list) <= spotsMost
}

func isBasisByRule(b impl.Basis) bool {
	return allFrom(basisNumbers(b), -spotAtMost, spotAtMost) && areaOf(b) > 0
}

// triangleByRule: two vectors with the same sums, the second one with no X, by
// Euclid's steps.
func triangleByRule(b impl.Basis) impl.Basis {
	for b.BX != 0 {
		times := b.AX / b.BX
		b = basisOf(b.BX, b.BY, b.AX-times*b.BX, b.AY-times*b.BY)
	}
	return b
}

// isSumOf: X tells how often the first vector of a triangle is in it, and what
// is left is for the second one.
func isSumOf(triangle impl.Basis, x, y int64) bool {
	times := x / triangle.AX
	return times*triangle.AX == x && (y-times*triangle.AY)%triangle.BY == 0
}

// isSumBySearch tries out how often the first vector is in it; no more often
// than the whole way there and back is long.
func isSumBySearch(b impl.Basis, x, y int64) bool {
	most := (apart(x, 0)*apart(b.BY, 0) + apart(y, 0)*apart(b.BX, 0)) / areaOf(b)
	for times := -most; times <= most; times++ {
		restX, restY := x-times*b.AX, y-times*b.AY
		if restX*b.BY != restY*b.BX {
			continue
		}
		if b.BX != 0 && restX%b.BX == 0 || b.BX == 0 && restY%b.BY == 0 {
			return true
		}
	}
	return false
}

func indexedByRule(list []impl.Spot, b impl.Basis) int64 {
	if !areSpotsByRule(list) || !isBasisByRule(b) {
		return 0
	}
	count, triangle := int64(0), triangleByRule(b)
	for _, s := range list {
		if isSumOf(triangle, s.X-list[0].X, s.Y-list[0].Y) {
			count++
		}
	}
	return count
}

// differencesOf: one for each two spots and each way round, so some come often.
func differencesOf(list []impl.Spot) [][2]int64 {
	out := [][2]int64{}
	for i := range list {
		for j := range i {
			x, y := list[i].X-list[j].X, list[i].Y-list[j].Y
			out = append(out, [2]int64{x, y}, [2]int64{-x, -y})
		}
	}
	return out
}

// basesByRule: all bases of two differences.
func basesByRule(list []impl.Spot) []impl.Basis {
	out := []impl.Basis{}
	if !areSpotsByRule(list) {
		return out
	}
	all := differencesOf(list)
	for _, a := range all {
		for _, b := range all {
			if basis := basisOf(a[0], a[1], b[0], b[1]); isBasisByRule(basis) {
				out = append(out, basis)
			}
		}
	}
	return out
}

// rankOf: what a basis is chosen by, the least list first.
func rankOf(list []impl.Spot, b impl.Basis) []int64 {
	return []int64{-indexedByRule(list, b), -areaOf(b), b.AX, b.AY, b.BX, b.BY}
}

func findByRule(list []impl.Spot) (impl.Basis, int64) {
	best := []int64{}
	for _, b := range basesByRule(list) {
		if rank := rankOf(list, b); len(best) == 0 || slices.Compare(rank, best) < 0 {
			best = rank
		}
	}
	if len(best) == 0 {
		return impl.Basis{}, 0
	}
	return basisOf(best[2], best[3], best[4], best[5]), -best[0]
}

// decidedBy: the places in the rank by which the best basis is chosen from all
// others, each of which it is by one of them.
func decidedBy(list []impl.Spot) [6]bool {
	out := [6]bool{}
	bases := basesByRule(list)
	if len(bases) == 0 {
		return out
	}
	best, count := findByRule(list)
	first := append([]int64{-count, -areaOf(best)}, basisNumbers(best)...)
	for _, b := range bases {
		rank := rankOf(list, b)
		for place := range rank {
			if rank[place] != first[place] {
				// with what stands behind alone the other one would be chosen
				out[place] = out[place] || slices.Compare(rank[place+1:], first[place+1:]) < 0
				break
			}
		}
	}
	return out
}

func votesByRule(list []impl.Spot) []impl.Vote {
	out := []impl.Vote{}
	if !areSpotsByRule(list) {
		return out
	}
	counts := map[[2]int64]int64{}
	for _, d := range differencesOf(list) {
		if d[0] > 0 || d[0] == 0 && d[1] > 0 {
			counts[d]++
		}
	}
	for d, count := range counts {
		out = append(out, impl.Vote{X: d[0], Y: d[1], Count: count})
	}
	slices.SortFunc(out, func(a, b impl.Vote) int {
		return cmp.Or(cmp.Compare(b.Count, a.Count), cmp.Compare(a.X, b.X), cmp.Compare(a.Y, b.Y))
	})
	return out
}

// risesFrom: sorted and with no number twice it is the same list.
func risesFrom(list []int64, low, high int64) bool {
	return allFrom(list, low, high) && slices.Equal(list, slices.Compact(slices.Sorted(slices.Values(list))))
}

func areExposuresByRule(exposures [][]int64) bool {
	for _, e := range exposures {
		if !risesFrom(e, 0, reflectionsMost-1) {
			return false
		}
	}
	return len(exposures) <= exposuresMost
}

// haveAll: each reflection of each exposure stands in one of the list.
func haveAll(exposures [][]int64, list []int64) bool {
	var stands [reflectionsMost]bool
	for _, number := range list {
		for _, reflection := range exposures[number] {
			stands[reflection] = true
		}
	}
	for _, e := range exposures {
		for _, reflection := range e {
			if !stands[reflection] {
				return false
			}
		}
	}
	return true
}

func isStrategyByRule(exposures [][]int64, list []int64) bool {
	return areExposuresByRule(exposures) && risesFrom(list, 0, int64(len(exposures)-1)) && haveAll(exposures, list)
}

// allLists: all lists of exposures' numbers that rise strictly, by their length
// and then as lists are compared.
var allLists = sync.OnceValue(func() [][]int64 {
	out := [][]int64{{}}
	for number := range int64(exposuresMost) {
		for _, list := range out {
			out = append(out, append(slices.Clone(list), number))
		}
	}
	slices.SortFunc(out, func(a, b []int64) int {
		return cmp.Or(cmp.Compare(len(a), len(b)), slices.Compare(a, b))
	})
	return out
})

// strategiesByRule: those with the fewest exposures, the first one first.
func strategiesByRule(exposures [][]int64) [][]int64 {
	out := [][]int64{}
	if !areExposuresByRule(exposures) {
		return out
	}
	for _, list := range allLists() {
		if len(out) > 0 && len(out[0]) < len(list) {
			break
		}
		if allFrom(list, 0, int64(len(exposures)-1)) && haveAll(exposures, list) {
			out = append(out, list)
		}
	}
	return out
}

func strategyByRule(exposures [][]int64) []int64 {
	if all := strategiesByRule(exposures); len(all) > 0 {
		return slices.Clone(all[0])
	}
	return nil
}

func isWitnessByRule(exposures [][]int64, list []int64) bool {
	if !areExposuresByRule(exposures) || !risesFrom(list, 0, reflectionsMost-1) {
		return false
	}
	for _, number := range list {
		if !slices.ContainsFunc(exposures, func(e []int64) bool { return slices.Contains(e, number) }) {
			return false
		}
	}
	for _, e := range exposures {
		shared := 0
		for _, number := range list {
			if slices.Contains(e, number) {
				shared++
			}
		}
		if shared > 1 {
			return false
		}
	}
	return true
}

func witnessByRule(exposures [][]int64) []int64 {
	out := []int64{}
	for number := range int64(reflectionsMost) {
		if longer := append(slices.Clone(out), number); isWitnessByRule(exposures, longer) {
			out = longer
		}
	}
	return out
}

func cloneLists(lists [][]int64) [][]int64 {
	out := make([][]int64, len(lists))
	for i, list := range lists {
		out[i] = slices.Clone(list)
	}
	return out
}

func sameLists(a, b [][]int64) bool { return slices.EqualFunc(a, b, slices.Equal[[]int64]) }

func (d *dice) basis(most int64) impl.Basis {
	for {
		n := d.numbers(4, most)
		if b := basisOf(n[0], n[1], n[2], n[3]); areaOf(b) > 0 {
			return b
		}
	}
}

func (d *dice) spot(most int64) impl.Spot {
	return impl.Spot{X: d.between(0, most), Y: d.between(0, most), Peak: d.wildNumber()}
}

// strays: spots anywhere up to most.
func (d *dice) strays(count int, most int64) []impl.Spot {
	out := []impl.Spot{}
	for range count {
		out = append(out, d.spot(most))
	}
	return out
}

// latticeSpots: at whole sums of the two vectors, seen from the middle.
func (d *dice) latticeSpots(b impl.Basis, count int, reach int64) []impl.Spot {
	out := []impl.Spot{}
	for len(out) < count {
		i, j := d.between(-reach, reach), d.between(-reach, reach)
		s := impl.Spot{X: 500 + i*b.AX + j*b.BX, Y: 500 + i*b.AY + j*b.BY, Peak: d.wildNumber()}
		if areSpotsByRule([]impl.Spot{s}) {
			out = append(out, s)
		}
	}
	return out
}

func (d *dice) mixed(list []impl.Spot) []impl.Spot {
	for i := range list {
		j := d.between(0, int64(i))
		list[i], list[j] = list[j], list[i]
	}
	return list
}

// spotLists: of each count on one lattice, on two, on one with strays, on a
// line, at one place, and with places that come twice.
func (d *dice) spotLists(counts ...int) [][]impl.Spot {
	out := [][]impl.Spot{}
	for _, count := range counts {
		most := []int64{2, 9, 40, 200}[d.between(0, 3)]
		half := count / 2
		one, two := d.latticeSpots(d.basis(most), count, 3), d.latticeSpots(d.basis(most), count, 2)
		line := spotsAt()
		x, y := d.between(0, 20), d.between(0, 20)
		for range count {
			times := d.between(0, 40)
			line = append(line, impl.Spot{X: 100 + times*x, Y: 900 - times*y})
		}
		place := d.spot(spotAtMost)
		out = append(out,
			one,
			d.mixed(slices.Concat(one[:half], two[half:])),
			d.mixed(slices.Concat(one[:half], d.strays(count-half, 1000))),
			d.strays(count, most),
			d.strays(count, 2),
			line,
			slices.Repeat([]impl.Spot{place}, count),
			d.mixed(slices.Concat(two[:half], two[:count-half])),
		)
	}
	return out
}

func handSpots() []impl.Spot { return spotsAt(10, 10, 14, 10, 10, 15, 18, 15, 11, 11) }

// wrongSpots: for each limit of spots a list that passes it, at the first spot,
// at the last one and between.
func wrongSpots() [][]impl.Spot {
	out := [][]impl.Spot{
		make([]impl.Spot, spotsMost+1),
		new(dice).strays(spotsMost+1, spotAtMost),
		new(dice).strays(1000, spotAtMost),
	}
	for _, number := range []int64{-1, spotAtMost + 1, -spotAtMost, 1 << 32, 1<<32 + 1, math.MaxInt64, math.MinInt64, math.MinInt64 + 1} {
		out = append(out, spotsAt(number, 0), spotsAt(0, number), spotsAt(number, number), spotsAt(number, number, number, number))
		for place := range handSpots() {
			x, y := handSpots(), handSpots()
			x[place].X, y[place].Y = number, number
			out = append(out, x, y)
		}
	}
	return out
}

func wrongBases() []impl.Basis {
	out := []impl.Basis{{}, basisOf(1, 0, 1, 0), basisOf(0, 1, 1, 0), basisOf(4, 0, 0, -5), basisOf(-4, 0, 0, 5), basisOf(2, 4, 3, 6), basisOf(0, 0, 3, 5), basisOf(3, 5, 0, 0), basisOf(1000, 999, 999, 998)}
	for _, number := range []int64{spotAtMost + 1, -spotAtMost - 1, 1 << 32, 1<<32 + 1, 1 << 62, math.MaxInt64, math.MinInt64, math.MinInt64 + 1} {
		for _, other := range []int64{1, -1, 3, spotAtMost, -spotAtMost} {
			out = append(out,
				basisOf(number, other, 0, 1), basisOf(1, number, other, 1), basisOf(1, other, number, 1), basisOf(1, 0, other, number),
				basisOf(number, 0, 0, other), basisOf(other, 0, 0, number), basisOf(0, number, other, 0), basisOf(0, other, number, 0),
			)
		}
		out = append(out, basisOf(number, 0, 0, number), basisOf(0, number, number, 0), basisOf(number, 1, number, number), basisOf(0, number, -1, 0))
	}
	return out
}

// exposure: rising numbers up to most, of which each comes once in so many.
func (d *dice) exposure(most, once int64) []int64 {
	out := []int64{}
	for number := range most + 1 {
		if d.between(1, once) == 1 {
			out = append(out, number)
		}
	}
	return out
}

func (d *dice) exposures(count int, most, once int64) [][]int64 {
	out := [][]int64{}
	for range count {
		out = append(out, d.exposure(most, once))
	}
	return out
}

func handExposures() [][]int64 { return [][]int64{{0, 1}, {1, 2, 3}, {0, 3}, {2, 4}} }

// families of exposures by hand: which overlap, which are the same twice, which
// are empty, one that holds all, and some whose fullest one is not needed.
func handFamilies() [][][]int64 {
	full := make([]int64, reflectionsMost)
	for i := range full {
		full[i] = int64(i)
	}
	alone := [][]int64{}
	for i := range int64(exposuresMost) {
		alone = append(alone, []int64{5 * i})
	}
	return [][][]int64{
		nil, {}, {nil}, {{}, {}}, {{0}}, {{63}}, {{0}, {63}}, {{}, {0}, {}}, {{4}, {4}, {4}}, {{7, 9}, {7, 9}},
		handExposures(),
		{{0}, {1}, {0, 1, 2}, {2}},
		{{0, 1, 2, 3}, {0, 1, 4}, {2, 3, 5}},
		{{1, 2, 3, 4, 5, 6}, {1, 3, 5, 7}, {2, 4, 6, 8}, {1, 2}},
		{{0, 2, 4, 6}, {1, 3, 5, 7}, {0, 1, 2, 3}, {4, 5}, {6, 7}},
		{{4, 5, 6, 7, 12, 13}, {0, 1, 2, 3, 4, 5, 6}, {7, 8, 9, 10, 11, 12, 13}, {2, 3, 10, 11}, {0, 1, 8, 9}},
		{{0, 1}, {2, 3}, {0, 2}, {1, 3}},
		{{0}, {1, 2}, {0, 1}, {2}},
		{{0, 1}, {1, 2}, {2, 3}, {3, 4}, {0, 4}},
		{{0, 1, 2}, {0, 3, 4}, {0, 5, 6}, {1, 3, 5}, {1, 4, 6}, {2, 3, 6}, {2, 4, 5}},
		{full}, {{}, full, {3}, full}, slices.Repeat([][]int64{full}, exposuresMost), alone, make([][]int64, exposuresMost),
	}
}

func (d *dice) families(counts ...int) [][][]int64 {
	out := [][][]int64{}
	for _, count := range counts {
		for _, most := range []int64{0, 3, 7, 20, reflectionsMost - 1} {
			for once := range int64(6) {
				out = append(out, d.exposures(count, most, once+1))
			}
		}
	}
	return out
}

// wrongExposures: for each limit of exposures some that pass it, at the first
// one, at the last one and between.
func wrongExposures() [][][]int64 {
	out := [][][]int64{make([][]int64, exposuresMost+1), new(dice).exposures(exposuresMost+1, 20, 3), make([][]int64, 1000)}
	for _, wrong := range [][]int64{
		{-1}, {-1, 0}, {reflectionsMost}, {0, reflectionsMost}, {63, reflectionsMost}, {0, 0}, {63, 63}, {1, 0}, {5, 4, 3}, {0, 2, 1}, {2, 0, 1}, {0, 1, 1}, {0, 5, 5, 9}, {0, 63, 0},
		{256}, {1 << 32}, {1<<32 + 1}, {math.MinInt64}, {math.MinInt64, 0}, {math.MaxInt64}, {0, math.MaxInt64}, {-64}, {-63}, {math.MaxInt64, math.MinInt64}, make([]int64, 5000),
	} {
		out = append(out, [][]int64{wrong}, [][]int64{wrong, wrong})
		for place := range handExposures() {
			e := handExposures()
			e[place] = wrong
			out = append(out, e)
		}
	}
	return out
}

// wrongLists are no lists of numbers below count that rise strictly.
func wrongLists(count int64) [][]int64 {
	return [][]int64{
		{-1}, {count}, {count + 1}, {-count}, {math.MinInt64}, {math.MinInt64 + 1}, {math.MaxInt64}, {1 << 32}, {1<<32 + 1}, {256},
		{-1, 0}, {-1, 0, 1, 2, 3}, {0, count}, {0, 1, 2, 3, count}, {math.MinInt64, 0, 1, 2, 3}, {0, 1, 2, 3, math.MaxInt64}, {0, math.MaxInt64, math.MinInt64},
		{0, 0}, {1, 1}, {3, 3}, {0, 0, 1, 2, 3}, {0, 1, 2, 3, 3}, {0, 1, 1, 2, 3}, {1, 0}, {3, 2, 1, 0}, {0, 1, 3, 2}, {0, 1, 2, 3, 0},
		make([]int64, 5000),
	}
}
