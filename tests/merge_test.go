package tests

import (
	"math"
	"math/big"
	"slices"

	"loop.example/g00055/impl"
)

// The limits of chapter 14 as the document writes them, and those of the
// chapters ahead that hold here.
const (
	intensityMost = 1000000
	mergedMost    = 60
	countedMost   = 12
	sumMost       = intensityMost * mergedMost
	obsMost       = 4096
	hklMost       = 100
)

// obsAt: observations of h, k, l, I, h, k, l, I, ..
func obsAt(numbers ...int64) []impl.Obs {
	out := []impl.Obs{}
	for i := 0; i+3 < len(numbers); i += 4 {
		out = append(out, impl.Obs{H: numbers[i], K: numbers[i+1], L: numbers[i+2], I: numbers[i+3]})
	}
	return out
}

func obsOf(h impl.Hkl, intensities ...int64) []impl.Obs {
	out := []impl.Obs{}
	for _, i := range intensities {
		out = append(out, impl.Obs{H: h.H, K: h.K, L: h.L, I: i})
	}
	return out
}

func hklOf(o impl.Obs) impl.Hkl { return hkl(o.H, o.K, o.L) }

func hklsOf(obs []impl.Obs) []impl.Hkl {
	out := []impl.Hkl{}
	for _, o := range obs {
		out = append(out, hklOf(o))
	}
	return out
}

func mergedOf(h, k, l int64, rest ...int64) impl.Merged {
	return impl.Merged{H: h, K: k, L: l, Count: rest[0], Sum: rest[1], Dev: rest[2], Least: rest[3], Most: rest[4]}
}

func isObsByRule(o impl.Obs) bool {
	return isHklByRule(hklOf(o)) && allFrom([]int64{o.I}, -intensityMost, intensityMost)
}

// mergedByRule: Count * I less Sum is what I is above each of them, together.
func mergedByRule(h impl.Hkl, intensities []int64) impl.Merged {
	out := impl.Merged{H: h.H, K: h.K, L: h.L, Least: slices.Min(intensities), Most: slices.Max(intensities)}
	for _, one := range intensities {
		above := int64(0)
		for _, other := range intensities {
			above += one - other
		}
		out.Dev += apart(above, 0)
		out.Sum += one
		out.Count++
	}
	return out
}

// mergeUnder is for a group: what is merged, and how many are lost; nothing and
// -1 where something is not as told.
func mergeUnder(g []impl.Op, obs []impl.Obs) ([]impl.Merged, int64) {
	if len(obs) > obsMost {
		return nil, -1
	}
	lost, intensities := int64(0), map[impl.Hkl][]int64{}
	told, extinct := map[impl.Hkl][]impl.Hkl{}, map[impl.Hkl]bool{}
	for _, o := range obs {
		h := hklOf(o)
		if _, ok := told[h]; !ok {
			told[h], extinct[h] = uniqueByRule(g, []impl.Hkl{h}), extinctByRule(g, h)
		}
		switch {
		case !isObsByRule(o) || len(told[h]) == 0:
			return nil, -1
		case extinct[h]:
			lost++
		default:
			intensities[told[h][0]] = append(intensities[told[h][0]], o.I)
		}
	}
	out := []impl.Merged{}
	for h, list := range intensities {
		out = append(out, mergedByRule(h, list))
	}
	slices.SortFunc(out, func(a, b impl.Merged) int { return lessHkl(hkl(a.H, a.K, a.L), hkl(b.H, b.K, b.L)) })
	return out, lost
}

func mergeByRule(g []impl.Op, obs []impl.Obs) ([]impl.Merged, int64) {
	if !isGroupByRule(g) {
		return nil, -1
	}
	return mergeUnder(g, obs)
}

// completeUnder is for a group, as the words of Complete go.
func completeUnder(g []impl.Op, obs []impl.Obs, asked []impl.Hkl) (int64, int64) {
	merged, lost := mergeUnder(g, obs)
	if lost < 0 || len(asked) > obsMost {
		return 0, 0
	}
	found, all := int64(0), int64(0)
	for _, h := range uniqueByRule(g, asked) {
		if extinctByRule(g, h) {
			continue
		}
		all++
		if slices.ContainsFunc(merged, func(m impl.Merged) bool { return hkl(m.H, m.K, m.L) == h }) {
			found++
		}
	}
	return found, all
}

// figureByRule: fractions that are in lowest terms by themselves.
func figureByRule(list []impl.Merged) (int64, int64, bool) {
	devs, sums := new(big.Rat), new(big.Rat)
	for _, m := range list {
		if !allFrom([]int64{m.Count}, 1, countedMost) || !allFrom([]int64{m.Sum}, -sumMost, sumMost) || !allFrom([]int64{m.Dev}, 0, sumMost) {
			return 0, 0, false
		}
		devs.Add(devs, big.NewRat(m.Dev, m.Count))
		sums.Add(sums, new(big.Rat).Abs(big.NewRat(m.Sum, 1)))
	}
	if len(list) > mergedMost || sums.Sign() == 0 {
		return 0, 0, false
	}
	devs.Quo(devs, sums)
	return devs.Num().Int64(), devs.Denom().Int64(), true
}

// meanOf: of the observations of these numbers, as a fraction.
func meanOf(list []impl.Obs, left []int64) *big.Rat {
	sum := new(big.Rat)
	for _, number := range left {
		sum.Add(sum, big.NewRat(list[number].I, int64(len(left))))
	}
	return sum
}

// outliersInTurn goes by how far each is from the mean of those that are left:
// above most just if |Count * I - Sum| is above most * Count. They come in the
// order in which they are taken.
func outliersInTurn(list []impl.Obs, most int64) []int64 {
	out, left := []int64{}, []int64{}
	for number, o := range list {
		if !isObsByRule(o) {
			return out
		}
		left = append(left, int64(number))
	}
	if len(list) > mergedMost || !allFrom([]int64{most}, 0, intensityMost) {
		return out
	}
	for len(left) >= 3 {
		mean, worst, far := meanOf(list, left), int64(-1), big.NewRat(most, 1)
		for _, number := range left {
			off := new(big.Rat).Sub(big.NewRat(list[number].I, 1), mean)
			if by := off.Abs(off).Cmp(far); by > 0 || by == 0 && worst >= 0 {
				worst, far = number, off
			}
		}
		if worst < 0 {
			break
		}
		out = append(out, worst)
		left = slices.DeleteFunc(left, func(number int64) bool { return number == worst })
	}
	return out
}

func outliersByRule(list []impl.Obs, most int64) []int64 {
	return slices.Sorted(slices.Values(outliersInTurn(list, most)))
}

func shuffledList[T any](d *dice, list []T) []T {
	out := slices.Clone(list)
	for i := range out {
		j := d.between(0, int64(i))
		out[i], out[j] = out[j], out[i]
	}
	return out
}

func reversedObs(obs []impl.Obs) []impl.Obs {
	out := slices.Clone(obs)
	slices.Reverse(out)
	return out
}

// kin: one of a family, or of its opposites.
func (d *dice) kin(family []impl.Shift) impl.Hkl {
	s := family[d.between(0, int64(len(family)-1))]
	if d.between(0, 1) == 0 {
		return hkl(-s.H, -s.K, -s.L)
	}
	return hkl(s.H, s.K, s.L)
}

// obsUnder: of few reflections many kin each, with intensities up to most.
func (d *dice) obsUnder(g []impl.Op, reflections, count int, most int64) []impl.Obs {
	families := [][]impl.Shift{}
	for i := range reflections {
		h := d.hkl(6)
		if i%2 == 0 {
			h = d.specialHkl(9)
		}
		families = append(families, impl.Family(g, h))
	}
	out := []impl.Obs{}
	for range count {
		h := d.kin(families[d.between(0, int64(reflections-1))])
		out = append(out, obsOf(h, d.between(-most, most))...)
	}
	return out
}

// intensities: observations of no reflection, with intensities up to most.
func (d *dice) intensities(count int, most int64) []impl.Obs {
	return obsOf(impl.Hkl{}, d.numbers(count, most)...)
}

// mergedList: as Merge could not always tell them, but Figure takes them.
func (d *dice) mergedList(count int, sum, dev int64) []impl.Merged {
	out := []impl.Merged{}
	for range count {
		out = append(out, impl.Merged{
			H: d.wildNumber(), K: d.wildNumber(), L: d.wildNumber(),
			Count: d.between(1, countedMost), Sum: d.between(-sum, sum), Dev: d.between(0, dev),
			Least: d.wildNumber(), Most: d.wildNumber(),
		})
	}
	return out
}

// handObs: under P21 two reflections, one of them seen twice, and one that is
// extinct.
func handObs() []impl.Obs { return obsAt(1, 0, 0, 10, -1, 0, 0, 14, 0, 1, 0, 99, 2, 1, 0, 5) }

// pastIntensities: each is no intensity.
func pastIntensities() []int64 {
	return []int64{intensityMost + 1, -intensityMost - 1, 1 << 32, -1 << 32, 1<<32 + 1, math.MaxInt64, math.MinInt64, math.MinInt64 + 1}
}

// wrongObs: each is none, by one number alone.
func wrongObs() []impl.Obs {
	out := []impl.Obs{}
	for _, h := range wrongHkls() {
		out = append(out, obsOf(h, 7)...)
	}
	for _, i := range pastIntensities() {
		out = append(out, obsAt(1, 2, 3, i, 0, 0, 0, i, 100, -100, 100, i)...)
	}
	return out
}

// wrongMerged: each is none that Figure takes, by one number alone.
func wrongMerged() []impl.Merged {
	out := []impl.Merged{}
	for _, count := range []int64{0, -1, countedMost + 1, -countedMost, 1 << 32, 1<<32 + 1, math.MaxInt64, math.MinInt64} {
		out = append(out, impl.Merged{Count: count, Sum: 5, Dev: 2})
	}
	for _, sum := range []int64{sumMost + 1, -sumMost - 1, 1 << 32, math.MaxInt64, math.MinInt64, math.MinInt64 + 1} {
		out = append(out, impl.Merged{Count: 1, Sum: sum, Dev: 2})
	}
	for _, dev := range []int64{-1, sumMost + 1, -sumMost, 1 << 32, math.MaxInt64, math.MinInt64, math.MinInt64 + 1} {
		out = append(out, impl.Merged{Count: 1, Sum: 5, Dev: dev})
	}
	return out
}
