package tests

import (
	"cmp"
	"math/big"
	"slices"

	"loop.example/g00055/impl"
)

// between: a number from low to high.
func (d *dice) between(low, high int64) int64 {
	return low + int64(d.bits()%uint64(high-low+1))
}

func (d *dice) numbers(count int, most int64) []int64 {
	list := make([]int64, count)
	for i := range list {
		list[i] = d.between(-most, most)
	}
	return list
}

// lattice: a matrix whose determinant is not 0.
func (d *dice) lattice(most int64) []int64 {
	for {
		if m := d.numbers(9, most); detByRule(m).Sign() != 0 {
			return m
		}
	}
}

// otherBasis is another matrix of the same lattice, its entries at most most.
func (d *dice) otherBasis(m []int64, most int64) []int64 {
	out := slices.Clone(m)
	for range 12 {
		next := slices.Clone(out)
		i, j := d.between(0, 2), d.between(0, 2)
		times := d.between(-2, 2)
		for k := int64(0); k < 3; k++ {
			if i == j {
				next[3*i+k] = -out[3*i+k]
			} else {
				next[3*i+k] = out[3*j+k]
				next[3*j+k] = out[3*i+k] + times*out[3*j+k]
			}
		}
		if slices.Max(next) <= most && slices.Min(next) >= -most {
			out = next
		}
	}
	return out
}

// minorByRule: the determinant of two rows and two columns, with no rounding.
func minorByRule(m []int64, r, s, c, d int) *big.Int {
	p := new(big.Int).Mul(big.NewInt(m[3*r+c]), big.NewInt(m[3*s+d]))
	q := new(big.Int).Mul(big.NewInt(m[3*r+d]), big.NewInt(m[3*s+c]))
	return p.Sub(p, q)
}

func detByRule(m []int64) *big.Int {
	sum := new(big.Int)
	for c := range 3 {
		part := minorByRule(m, 1, 2, (c+1)%3, (c+2)%3)
		sum.Add(sum, part.Mul(part, big.NewInt(m[c])))
	}
	return sum
}

// holdsByRule: by Cramer, a row changed for the vector has a determinant that
// the matrix's divides.
func holdsByRule(m []int64, v ...int64) bool {
	det := detByRule(m)
	for i := range 3 {
		changed := slices.Clone(m)
		copy(changed[3*i:], v)
		if new(big.Int).Rem(detByRule(changed), det).Sign() != 0 {
			return false
		}
	}
	return true
}

// diagonalByRule is the Hermite diagonal: its first number divides the first
// column, its first two together the minors of the first two columns.
func diagonalByRule(m []int64) [3]int64 {
	column, minors := new(big.Int), new(big.Int)
	for i := range 3 {
		column.GCD(nil, nil, column, new(big.Int).Abs(big.NewInt(m[3*i])))
		minor := minorByRule(m, i, (i+1)%3, 0, 1)
		minors.GCD(nil, nil, minors, minor.Abs(minor))
	}
	det := detByRule(m)
	last := new(big.Int).Quo(det.Abs(det), minors)
	return [3]int64{column.Int64(), minors.Quo(minors, column).Int64(), last.Int64()}
}

// isHermiteOf: of all matrices one alone is so.
func isHermiteOf(h, m []int64) bool {
	if len(h) != 9 || h[3] != 0 || h[6] != 0 || h[7] != 0 {
		return false
	}
	for k := range 3 {
		for i := range k {
			if h[3*i+k] < 0 || h[3*i+k] >= h[4*k] {
				return false
			}
		}
		if !holdsByRule(m, h[3*k:3*k+3]...) || h[4*k] < 1 {
			return false
		}
	}
	return detByRule(h).CmpAbs(detByRule(m)) == 0
}

// smithByRule clears rows and columns, whatever divisors there may be.
func smithByRule(m []int64) []int64 {
	a := make([]*big.Int, 9)
	for i := range a {
		a[i] = big.NewInt(m[i])
	}
	diagonal := []*big.Int{}
	for side := 3; side > 0; side-- {
		clearCorner(a, side)
		diagonal = append(diagonal, a[0].Abs(a[0]))
		rest := []*big.Int{}
		for i := side; i < side*side; i++ {
			if i%side != 0 {
				rest = append(rest, a[i])
			}
		}
		a = rest
	}
	for range 3 {
		for i := range 2 {
			p, q := diagonal[i], diagonal[i+1]
			g := new(big.Int).GCD(nil, nil, p, q)
			both := new(big.Int).Mul(p, q)
			diagonal[i], diagonal[i+1] = g, both.Quo(both, g)
		}
	}
	return []int64{diagonal[0].Int64(), diagonal[1].Int64(), diagonal[2].Int64()}
}

// clearCorner makes all beside and below the square's corner 0, by steps that
// can be taken back.
func clearCorner(a []*big.Int, side int) {
	line := func(i int, across bool) []*big.Int {
		out := make([]*big.Int, side)
		for k := range side {
			out[k] = a[side*i+k]
			if across {
				out[k] = a[side*k+i]
			}
		}
		return out
	}
	for again := true; again; {
		again = false
		for i := 1; i < side; i++ {
			for _, across := range []bool{false, true} {
				p, q := line(0, across), line(i, across)
				for q[0].Sign() != 0 {
					again = true
					takeAndChange(p, q)
				}
			}
		}
	}
}

// takeAndChange is one of Euclid's steps, with lines for numbers; a line whose
// first number divides the other's is not changed.
func takeAndChange(p, q []*big.Int) {
	times := new(big.Int)
	if p[0].Sign() != 0 {
		times.Quo(q[0], p[0])
	}
	for k := range p {
		q[k].Sub(q[k], new(big.Int).Mul(times, p[k]))
	}
	if q[0].Sign() != 0 {
		for k := range p {
			old := new(big.Int).Set(p[k])
			p[k].Set(q[k])
			q[k].Set(old)
		}
	}
}

func formAt(f impl.Form, x, y int64) int64 { return f.A*x*x + 2*f.B*x*y + f.C*y*y }

func formDet(f impl.Form) int64 { return f.A*f.C - f.B*f.B }

// formOf: of the vectors (x, y) and (z, w) of f's lattice.
func formOf(f impl.Form, x, y, z, w int64) impl.Form {
	return impl.Form{A: formAt(f, x, y), B: f.A*x*z + f.B*(x*w+y*z) + f.C*y*w, C: formAt(f, z, w)}
}

// sideFor: half that of a square that has all (x, y) up to most.
func sideFor(f impl.Form, most int64) int64 {
	side := int64(0)
	for formDet(f)*side*side <= most*max(f.A, f.C) {
		side++
	}
	return side
}

// shortsByRule asks every pair within a square that has them all.
func shortsByRule(f impl.Form, most int64) []impl.Form {
	list := []impl.Form{}
	side := sideFor(f, most)
	for x := int64(0); x <= side; x++ {
		for y := -side; y <= side; y++ {
			if n := formAt(f, x, y); n <= most && (x > 0 || y > 0) {
				list = append(list, impl.Form{A: x, B: y, C: n})
			}
		}
	}
	slices.SortFunc(list, func(p, q impl.Form) int {
		return cmp.Or(cmp.Compare(p.C, q.C), cmp.Compare(p.A, q.A), cmp.Compare(p.B, q.B))
	})
	return list
}

// reducedByRule: A is the least number of all, C the least of a vector that
// makes the lattice with it.
func reducedByRule(f impl.Form) impl.Form {
	list := shortsByRule(f, max(f.A, f.C))
	first := list[0]
	for _, second := range list {
		turn := first.A*second.B - first.B*second.A
		if turn == 1 || turn == -1 {
			g := formOf(f, first.A, first.B, second.A, second.B)
			return impl.Form{A: g.A, B: max(g.B, -g.B), C: g.C}
		}
	}
	return impl.Form{}
}

// form: a right one, its numbers at most most.
func (d *dice) form(most int64) impl.Form {
	for {
		f := impl.Form{A: d.between(1, most), B: d.between(-most, most), C: d.between(1, most)}
		if formDet(f) > 0 {
			return f
		}
	}
}

// otherForm is another right form of the same lattice, mirrored or not.
func (d *dice) otherForm(f impl.Form) impl.Form {
	for range 12 {
		k := d.between(-3, 3)
		g := formOf(f, 0, 1, 1, k)
		if d.bits()%2 == 0 {
			g = formOf(f, -1, k, 0, 1)
		}
		if max(g.A, g.B, -g.B, g.C) <= impl.MaxForm {
			f = g
		}
	}
	return f
}
