package tests

import (
	"cmp"
	"math"
	"slices"

	"loop.example/g00055/impl"
)

func isPointByRule(p impl.Point) bool {
	for _, n := range []int64{p.X, p.Y, p.Z} {
		if n < 0 || n > 23 {
			return false
		}
	}
	return true
}

func isHklByRule(h impl.Hkl) bool {
	for _, n := range []int64{h.H, h.K, h.L} {
		if n < -100 || n > 100 {
			return false
		}
	}
	return true
}

// wrongPoints: each has one number that is none.
func wrongPoints() []impl.Point {
	list := []impl.Point{}
	for _, n := range []int64{-1, 24, 25, -24, 48, 1 << 32, math.MaxInt64, math.MinInt64} {
		list = append(list, impl.Point{X: n, Y: 1, Z: 23}, impl.Point{X: 2, Y: n}, impl.Point{X: 23, Y: 23, Z: n})
	}
	return list
}

// wrongHkls: each has one number that is none.
func wrongHkls() []impl.Hkl {
	list := []impl.Hkl{}
	for _, n := range []int64{101, -101, 102, 124, 1 << 32, math.MaxInt64, math.MinInt64} {
		list = append(list, impl.Hkl{H: n, K: 1, L: -1}, impl.Hkl{H: 2, K: n}, impl.Hkl{H: 100, K: -100, L: n})
	}
	return list
}

func (d *dice) point() impl.Point {
	return impl.Point{X: d.between(0, 23), Y: d.between(0, 23), Z: d.between(0, 23)}
}

// special: a point of which the numbers are likely to be of few kinds.
func (d *dice) special() impl.Point {
	s := []int64{0, 0, 12, 6, 3, 8, 16, 4, d.between(0, 23)}
	a, b := s[d.between(0, 8)], s[d.between(0, 8)]
	all := []int64{a, b, a, (24 - a) % 24, 2 * a % 24, (a + 12) % 24}
	return impl.Point{X: a, Y: all[d.between(0, 5)], Z: all[d.between(0, 5)]}
}

func (d *dice) hkl(most int64) impl.Hkl {
	return impl.Hkl{H: d.between(-most, most), K: d.between(-most, most), L: d.between(-most, most)}
}

// specialHkl: a reflection on an axis, in a plane, or of like numbers.
func (d *dice) specialHkl(most int64) impl.Hkl {
	h := d.hkl(most)
	switch d.between(0, 6) {
	case 0:
		return impl.Hkl{H: h.H}
	case 1:
		return impl.Hkl{K: h.K}
	case 2:
		return impl.Hkl{L: h.L}
	case 3:
		return impl.Hkl{K: h.K, L: h.L}
	case 4:
		return impl.Hkl{H: h.H, L: h.L}
	case 5:
		return impl.Hkl{H: h.H, K: h.H, L: h.L}
	}
	return impl.Hkl{H: h.H, K: h.K}
}

// actByRule: where an Op takes a point of the whole space, brought into the
// cell by whole cells.
func actByRule(o impl.Op, p impl.Point) impl.Point {
	q := pointBehind(o, [3]int64{p.X, p.Y, p.Z})
	for i := range q {
		for q[i] < 0 {
			q[i] += 24
		}
		for q[i] > 23 {
			q[i] -= 24
		}
	}
	return impl.Point{X: q[0], Y: q[1], Z: q[2]}
}

// orbitByRule asks each point of the cell, in order, whether p comes there.
func orbitByRule(g []impl.Op, p impl.Point) []impl.Point {
	var reached [24][24][24]bool
	for _, o := range g {
		q := actByRule(o, p)
		reached[q.X][q.Y][q.Z] = true
	}
	out := []impl.Point{}
	for x := range int64(24) {
		for y := range int64(24) {
			for z := range int64(24) {
				if reached[x][y][z] {
					out = append(out, impl.Point{X: x, Y: y, Z: z})
				}
			}
		}
	}
	return out
}

func stabiliserByRule(g []impl.Op, p impl.Point) []impl.Op {
	return slices.DeleteFunc(slices.Clone(g), func(o impl.Op) bool { return actByRule(o, p) != p })
}

// sitesByRule asks each point by itself, by the Ops that leave it.
func sitesByRule(g []impl.Op) []impl.Site {
	counts := make([]int64, len(g)+1)
	for n := range int64(24 * 24 * 24) {
		p := impl.Point{X: n / 576, Y: n / 24 % 24, Z: n % 24}
		stay := 0
		for _, o := range g {
			if actByRule(o, p) == p {
				stay++
			}
		}
		counts[len(g)/stay]++
	}
	out := []impl.Site{}
	for rank, count := range counts {
		if count > 0 {
			out = append(out, impl.Site{Count: count, Rank: int64(rank)})
		}
	}
	return out
}

func dot(h impl.Hkl, v [3]int64) int64 { return h.H*v[0] + h.K*v[1] + h.L*v[2] }

// hklByRule: what h tells of the places of four points behind the Op.
func hklByRule(o impl.Op, h impl.Hkl) (impl.Hkl, int64) {
	start := dot(h, pointBehind(o, [3]int64{}))
	row := [3]int64{}
	for i := range row {
		var corner [3]int64
		corner[i] = 1
		row[i] = dot(h, pointBehind(o, corner)) - start
	}
	return impl.Hkl{H: row[0], K: row[1], L: row[2]}, (start%24 + 24) % 24
}

func extinctByRule(g []impl.Op, h impl.Hkl) bool {
	return slices.ContainsFunc(g, func(o impl.Op) bool {
		k, phase := hklByRule(o, h)
		return k == h && phase%24 != 0
	})
}

func lessHkl(a, b impl.Hkl) int {
	return slices.Compare([]int64{a.H, a.K, a.L}, []int64{b.H, b.K, b.L})
}

func opposite(h impl.Hkl) impl.Hkl { return impl.Hkl{H: -h.H, K: -h.K, L: -h.L} }

func familyByRule(g []impl.Op, h impl.Hkl) []impl.Shift {
	phases := map[impl.Hkl]int64{}
	list := []impl.Hkl{}
	for _, o := range g {
		k, phase := hklByRule(o, h)
		if !isHklByRule(k) {
			return nil
		}
		if _, ok := phases[k]; !ok {
			phases[k] = phase
			list = append(list, k)
		}
	}
	slices.SortFunc(list, lessHkl)
	out := []impl.Shift{}
	for _, k := range list {
		out = append(out, impl.Shift{H: k.H, K: k.K, L: k.L, Phase: phases[k]})
	}
	return out
}

func uniqueByRule(g []impl.Op, list []impl.Hkl) []impl.Hkl {
	out := []impl.Hkl{}
	for _, h := range list {
		all := []impl.Hkl{}
		for _, s := range familyByRule(g, h) {
			k := impl.Hkl{H: s.H, K: s.K, L: s.L}
			all = append(all, k, opposite(k))
		}
		if !isHklByRule(h) || len(all) == 0 {
			return nil
		}
		most := slices.MaxFunc(all, lessHkl)
		if !slices.Contains(out, most) {
			out = append(out, most)
		}
	}
	slices.SortFunc(out, lessHkl)
	return out
}

// wave: a sum of roots of one, as how often each of the 24 stands in it.
type wave [24]int64

// waveOf: what points scatter into h, each as much.
func waveOf(points []impl.Point, h impl.Hkl) wave {
	var w wave
	for _, p := range points {
		w[(dot(h, [3]int64{p.X, p.Y, p.Z})%24+24)%24]++
	}
	return w
}

func (w wave) turned(phase int64) wave {
	var out wave
	for i, n := range w {
		out[(int64(i)+phase)%24] += n
	}
	return out
}

// rest tells the sum by eight numbers, exactly: r to the power 12 is -1, and to
// the power 8 it is r to the power 4 less 1, r the first of the roots.
func (w wave) rest() [8]int64 {
	for i := 12; i < 24; i++ {
		w[i-12] -= w[i]
	}
	for i := 11; i >= 8; i-- {
		w[i-4] += w[i]
		w[i-8] -= w[i]
	}
	return [8]int64(w[:8])
}

// float: the sum by sines, to hold rest against.
func (w wave) float() complex128 {
	var sum complex128
	for i, n := range w {
		s, c := math.Sincos(math.Pi * float64(i) / 12)
		sum += complex(float64(n)*c, float64(n)*s)
	}
	return sum
}

func sortedHkls(list []impl.Hkl) bool {
	return slices.IsSortedFunc(list, func(a, b impl.Hkl) int { return cmp.Or(lessHkl(a, b), 1) })
}
