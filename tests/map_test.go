package tests

import (
	"math"
	"slices"

	"loop.example/g00055/impl"
)

func sides() []int64 { return []int64{1, 2, 3, 4, 6, 12} }

func smallSides() []int64 { return []int64{1, 2, 3, 4, 6} }

// mapOf: a map of side n, noughts but for the numbers given, each behind the
// three of its place.
func mapOf(n int64, numbers ...[4]int64) impl.Map {
	m := impl.Map{N: n, Rho: make([]int64, n*n*n)}
	for _, k := range numbers {
		m.Rho[(k[2]*n+k[1])*n+k[0]] = k[3]
	}
	return m
}

func sameMap(a, b impl.Map) bool { return a.N == b.N && slices.Equal(a.Rho, b.Rho) }

func isZeroMap(m impl.Map) bool { return m.N == 0 && len(m.Rho) == 0 }

func cloneMap(m impl.Map) impl.Map { return impl.Map{N: m.N, Rho: slices.Clone(m.Rho)} }

func isMapByRule(m impl.Map) bool {
	counts := map[int64]int{1: 1, 2: 8, 3: 27, 4: 64, 6: 216, 12: 1728}
	count, ok := counts[m.N]
	if !ok || len(m.Rho) != count {
		return false
	}
	return slices.Min(m.Rho) >= 0 && slices.Max(m.Rho) <= 12288
}

func isSmallByRule(m impl.Map) bool { return isMapByRule(m) && m.N != 12 }

// drawn: a map of side n, its numbers from 0 to most.
func (d *dice) drawn(n, most int64) impl.Map {
	m := mapOf(n)
	for i := range m.Rho {
		m.Rho[i] = d.between(0, most)
	}
	return m
}

// maps: of noughts, of one number alone, of all alike, and drawn ones.
func (d *dice) maps(n int64) []impl.Map {
	last := n - 1
	list := []impl.Map{mapOf(n), mapOf(n, [4]int64{0, 0, 0, 1}), mapOf(n, [4]int64{last, last, last, 12288}), mapOf(n, [4]int64{last, 0, last / 2, 7})}
	for _, rho := range []int64{1, 12288} {
		alike := mapOf(n)
		for i := range alike.Rho {
			alike.Rho[i] = rho
		}
		list = append(list, alike)
	}
	for _, most := range []int64{1, 2, 5, 500, 12288, 12288, 12288} {
		list = append(list, d.drawn(n, most))
	}
	return append(list, mapOf(n, [4]int64{d.between(0, last), d.between(0, last), d.between(0, last), d.between(1, 12288)}))
}

// wrongMaps: each is none by one thing alone.
func wrongMaps() []impl.Map {
	list := []impl.Map{{}, {Rho: []int64{1}}, {N: 0, Rho: []int64{}}}
	for _, n := range []int64{5, 7, 8, 9, 10, 11, 13, 24} {
		list = append(list, mapOf(n), impl.Map{N: n}, impl.Map{N: n, Rho: make([]int64, 12)})
	}
	for _, n := range []int64{-1, -2, -3, -4, -6, -12, -5, 1 << 22, 1 << 32, 1 << 43, math.MaxInt64, math.MinInt64, math.MinInt64 + 1} {
		list = append(list, impl.Map{N: n}, impl.Map{N: n, Rho: []int64{1}}, impl.Map{N: n, Rho: make([]int64, 8)}, impl.Map{N: n, Rho: make([]int64, 216)})
	}
	for _, n := range sides() {
		all := n * n * n
		for _, count := range []int64{0, all - 1, all + 1, n * n * (n + 1), all + 4096} {
			list = append(list, impl.Map{N: n, Rho: make([]int64, count)})
		}
		list = append(list, impl.Map{N: n})
		for _, rho := range []int64{-1, 12289, 12290, -12289, 1 << 32, math.MaxInt64, math.MinInt64} {
			for _, place := range []int64{0, all / 2, all - 1} {
				m := mapOf(n)
				m.Rho[place] = rho
				list = append(list, m)
			}
		}
	}
	return list
}

// rootsByRule: the powers 0 to 11 of Root, by products alone.
func rootsByRule() [12]int64 {
	root := int64(1)
	for range 1024 {
		root = root * 11 % 12289
	}
	roots := [12]int64{1}
	for k := 1; k < 12; k++ {
		roots[k] = roots[k-1] * root % 12289
	}
	return roots
}

// backByRule asks every residue whether its product with n is 1.
func backByRule(n int64) int64 {
	for k := range int64(12289) {
		if k*n%12289 == 1 {
			return k
		}
	}
	return 0
}

// numberAt: coordinates of any size, brought into the cell by whole cells; -1
// where the map has not so many numbers.
func numberAt(m impl.Map, x, y, z int64) int64 {
	if m.N < 1 || int64(len(m.Rho)) != m.N*m.N*m.N {
		return -1
	}
	place := int64(0)
	for _, k := range []int64{z, y, x} {
		place = place*m.N + (k%m.N+m.N)%m.N
	}
	return m.Rho[place]
}

// eachPlace makes a map of which each number is told by its place.
func eachPlace(n int64, tell func(x, y, z int64) int64) impl.Map {
	out := impl.Map{N: n}
	for z := range n {
		for y := range n {
			for x := range n {
				out.Rho = append(out.Rho, tell(x, y, z))
			}
		}
	}
	return out
}

// sumOverPlaces adds up, modulo the prime, what is told of each place.
func sumOverPlaces(n int64, tell func(x, y, z int64) int64) int64 {
	sum := int64(0)
	for _, k := range eachPlace(n, tell).Rho {
		sum = (sum + k) % 12289
	}
	return sum
}

// transformByRule: each number by all numbers of the map, with r to the power
// turn in r's place.
func transformByRule(m impl.Map, turn int64) impl.Map {
	roots, step := rootsByRule(), 12/m.N*turn
	return eachPlace(m.N, func(u, v, w int64) int64 {
		return sumOverPlaces(m.N, func(x, y, z int64) int64 {
			return numberAt(m, x, y, z) * roots[step*(u*x+v*y+w*z)%12]
		})
	})
}

func forwardByRule(m impl.Map) impl.Map {
	if !isSmallByRule(m) {
		return impl.Map{}
	}
	return transformByRule(m, 1)
}

func backwardByRule(m impl.Map) impl.Map {
	if !isSmallByRule(m) {
		return impl.Map{}
	}
	out, share := transformByRule(m, m.N-1), backByRule(m.N*m.N*m.N)
	for i := range out.Rho {
		out.Rho[i] = out.Rho[i] * share % 12289
	}
	return out
}

func convolveByRule(a, b impl.Map) impl.Map {
	if !isSmallByRule(a) || !isSmallByRule(b) || a.N != b.N {
		return impl.Map{}
	}
	return eachPlace(a.N, func(x, y, z int64) int64 {
		return sumOverPlaces(a.N, func(u, v, w int64) int64 {
			return numberAt(a, u, v, w) * numberAt(b, x-u, y-v, z-w)
		})
	})
}

func pattersonByRule(m impl.Map) impl.Map {
	if !isSmallByRule(m) {
		return impl.Map{}
	}
	return eachPlace(m.N, func(x, y, z int64) int64 {
		return sumOverPlaces(m.N, func(u, v, w int64) int64 {
			return numberAt(m, u, v, w) * numberAt(m, x+u, y+v, z+w)
		})
	})
}

// paintByRule asks at each place every atom whether it lies there; an atom that
// lies at none lies between.
func paintByRule(atoms []impl.Atom, n int64) impl.Map {
	if !slices.Contains(sides(), n) || !isStructureByRule(atoms) {
		return impl.Map{}
	}
	found := 0
	out := eachPlace(n, func(x, y, z int64) int64 {
		sum := int64(0)
		for _, a := range atoms {
			if a.X*n == 12*x && a.Y*n == 12*y && a.Z*n == 12*z {
				sum += a.F
				found++
			}
		}
		return (sum%12289 + 12289) % 12289
	})
	if found != len(atoms) {
		return impl.Map{}
	}
	return out
}

// averageByRule: g is a group.
func averageByRule(m impl.Map, g []impl.Op) impl.Map {
	step, share, between := 24/m.N, backByRule(int64(len(g))), false
	out := eachPlace(m.N, func(x, y, z int64) int64 {
		sum := int64(0)
		for _, o := range g {
			p := actByRule(o, at(step*x, step*y, step*z))
			between = between || p.X%step+p.Y%step+p.Z%step != 0
			sum += numberAt(m, p.X/step, p.Y/step, p.Z/step)
		}
		return sum % 12289 * share % 12289
	})
	if between {
		return impl.Map{}
	}
	return out
}

// isPeakByRule holds a number against those of the places that are beside it:
// one coordinate is one more or one less, and they are other places.
func isPeakByRule(m impl.Map, x, y, z int64) bool {
	rho := numberAt(m, x, y, z)
	if m.N == 1 {
		return rho > 0
	}
	beside := []int64{
		0, numberAt(m, x+1, y, z), numberAt(m, x-1, y, z), numberAt(m, x, y+1, z),
		numberAt(m, x, y-1, z), numberAt(m, x, y, z+1), numberAt(m, x, y, z-1),
	}
	return rho > slices.Max(beside)
}

func peaksByRule(m impl.Map) []impl.Peak {
	list := []impl.Peak{}
	for x := range m.N {
		for y := range m.N {
			for z := range m.N {
				if isPeakByRule(m, x, y, z) {
					list = append(list, impl.Peak{X: x, Y: y, Z: z, Rho: numberAt(m, x, y, z)})
				}
			}
		}
	}
	slices.SortFunc(list, func(a, b impl.Peak) int {
		return slices.Compare([]int64{-a.Rho, a.Z, a.Y, a.X}, []int64{-b.Rho, b.Z, b.Y, b.X})
	})
	return list
}

// residueOf: a cyclotomic number with Root in the root's place.
func residueOf(a impl.Cyc) int64 {
	roots := rootsByRule()
	sum := a.A%12289 + a.B%12289*roots[1] + a.C%12289*roots[2] + a.D%12289*roots[3]
	return (sum%12289 + 12289) % 12289
}
