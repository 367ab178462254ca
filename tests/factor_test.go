package tests

import (
	"math"
	"math/big"
	"math/cmplx"
	"slices"

	"loop.example/g00055/impl"
)

func atom(x, y, z, f int64) impl.Atom { return impl.Atom{X: x, Y: y, Z: z, F: f} }

func isStructureByRule(atoms []impl.Atom) bool {
	for _, a := range atoms {
		for _, n := range []int64{a.X, a.Y, a.Z} {
			if n < 0 || n > 11 {
				return false
			}
		}
		if a.F < -1000 || a.F > 1000 {
			return false
		}
	}
	return len(atoms) <= 200
}

// wrongAtoms: each has one number that is none.
func wrongAtoms() []impl.Atom {
	list := []impl.Atom{}
	for _, n := range []int64{-1, 12, 13, -12, 23, 1 << 32, math.MaxInt64, math.MinInt64} {
		list = append(list, atom(n, 1, 11, 1), atom(2, n, 0, -1), atom(11, 11, n, 0))
	}
	for _, f := range []int64{1001, -1001, 1 << 32, math.MaxInt64, math.MinInt64} {
		list = append(list, atom(0, 0, 0, f), atom(11, 1, 6, f))
	}
	return list
}

// wrongStructures: each is none by one thing alone.
func wrongStructures() [][]impl.Atom {
	list := [][]impl.Atom{slices.Repeat([]impl.Atom{{}}, 201), slices.Repeat([]impl.Atom{atom(1, 2, 3, 4)}, 201), slices.Repeat([]impl.Atom{{}}, 4097)}
	for _, a := range wrongAtoms() {
		list = append(list, []impl.Atom{a}, []impl.Atom{atom(1, 2, 3, 4), {}, a}, []impl.Atom{a, atom(11, 11, 11, 1000)})
	}
	return list
}

func (d *dice) atom(most int64) impl.Atom {
	f := d.between(-most, most)
	if d.between(0, 9) == 0 {
		f = 0
	}
	return atom(d.between(0, 11), d.between(0, 11), d.between(0, 11), f)
}

// specialAtom: at a place whose numbers are likely to be of few kinds.
func (d *dice) specialAtom(most int64) impl.Atom {
	p := d.special()
	return atom(p.X/2, p.Y/2, p.Z/2, d.between(-most, most))
}

func (d *dice) atoms(count int, most int64) []impl.Atom {
	list := []impl.Atom{}
	for i := range count {
		switch d.between(0, 5) {
		case 0:
			list = append(list, d.specialAtom(most))
		case 1: // at a place where one lies already
			other := append(list, atom(0, 0, 0, 0))[d.between(0, int64(i))]
			list = append(list, atom(other.X, other.Y, other.Z, d.between(-most, most)))
		default:
			list = append(list, d.atom(most))
		}
	}
	return list
}

func powerByRule(a impl.Atom, h impl.Hkl) int {
	return int((dot(h, [3]int64{a.X, a.Y, a.Z})%12 + 12) % 12)
}

func exactByRule(atoms []impl.Atom, h impl.Hkl) (impl.Cyc, bool) {
	if !isStructureByRule(atoms) || !isHklByRule(h) {
		return impl.Cyc{}, false
	}
	sum := noPowers(12)
	for _, a := range atoms {
		sum.add(powerByRule(a, h), big.NewInt(a.F))
	}
	return sum.cyc()
}

// floatByRule: the roots by the words of chapter 6, each operation rounded by
// itself, and the lanes one after the other.
func floatByRule(atoms []impl.Atom, h impl.Hkl) impl.Cx {
	if !isStructureByRule(atoms) || !isHklByRule(h) {
		return impl.Cx{}
	}
	return lanesByRule(termsByRule(atoms, h))
}

func termsByRule(atoms []impl.Atom, h impl.Hkl) []impl.Cx {
	terms := []impl.Cx{}
	for _, a := range atoms {
		re, im := cycFloatByRule(cycRootByRule(int64(powerByRule(a, h))))
		f := float64(a.F)
		terms = append(terms, impl.Cx{Re: roundedOnce('*', f, re, 64), Im: roundedOnce('*', f, im, 64)})
	}
	return terms
}

// inOneLane adds the terms one after the other, to see where lanes matter.
func inOneLane(terms []impl.Cx) impl.Cx {
	var sum impl.Cx
	for _, term := range terms {
		sum.Re += term.Re
		sum.Im += term.Im
	}
	return sum
}

// scatteredByRule: the sum by sines alone.
func scatteredByRule(atoms []impl.Atom, h impl.Hkl) complex128 {
	var sum complex128
	for _, a := range atoms {
		turn := 2 * math.Pi * float64(dot(h, [3]int64{a.X, a.Y, a.Z})) / 12
		sum += complex(float64(a.F), 0) * cmplx.Exp(complex(0, turn))
	}
	return sum
}

// spreadByRule asks each point of each orbit by itself whether an earlier atom
// has brought it.
func spreadByRule(g []impl.Op, atoms []impl.Atom) ([]impl.Atom, bool) {
	if !isGroupByRule(g) || !isStructureByRule(atoms) {
		return nil, false
	}
	for _, o := range g {
		if o.T[0]%2+o.T[1]%2+o.T[2]%2 != 0 {
			return nil, false
		}
	}
	out := []impl.Atom{}
	for _, a := range atoms {
		earlier := len(out)
		for _, p := range orbitByRule(g, at(2*a.X, 2*a.Y, 2*a.Z)) {
			b := atom(p.X/2, p.Y/2, p.Z/2, a.F)
			if !slices.Contains(out[:earlier], b) {
				out = append(out, b)
			}
		}
	}
	if len(out) > 200 {
		return nil, false
	}
	return out, true
}

func countOf(atoms []impl.Atom, a impl.Atom) int {
	count := 0
	for _, b := range atoms {
		if a == b {
			count++
		}
	}
	return count
}

func across(a impl.Atom) impl.Atom {
	return atom((12-a.X)%12, (12-a.Y)%12, (12-a.Z)%12, a.F)
}

func signedByRule(atoms []impl.Atom) bool {
	if !isStructureByRule(atoms) {
		return false
	}
	for _, a := range atoms {
		if countOf(atoms, a) != countOf(atoms, across(a)) {
			return false
		}
	}
	return true
}

// ringsByRule counts each (x, y) by itself, those below 0 too.
func ringsByRule(f impl.Form, most int64) []impl.Ring {
	if len(shortsByRule(f, most)) > 500 {
		return nil
	}
	side := sideFor(f, most)
	counts := make([]int64, most+1)
	for x := -side; x <= side; x++ {
		for y := -side; y <= side; y++ {
			if n := formAt(f, x, y); n <= most && n > 0 {
				counts[n]++
			}
		}
	}
	out := []impl.Ring{}
	for q, count := range counts {
		if count > 0 {
			out = append(out, impl.Ring{Q: int64(q), Count: count})
		}
	}
	return out
}
