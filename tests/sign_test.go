package tests

import (
	"math"
	"math/big"
	"slices"

	"loop.example/g00055/impl"
)

// The limits of chapter 15 as the document writes them, and chapter 8's prime.
const (
	realMost   = 10000
	signsMost  = 60
	tapeMost   = 200
	inputsMost = 20
	xMost      = 100
	depthMost  = 1000000000000
	roundsMost = 20
	tapePrime  = 12289
)

// The Ops of a tape as the document numbers them.
const (
	kindIn = 1 + iota
	kindSum
	kindProduct
	kindMinus
	kindConst
)

// A surd is p + q r, r the square root of 3, without bounds.
type surd struct{ p, q *big.Int }

func surdOf(p, q int64) surd { return surd{big.NewInt(p), big.NewInt(q)} }

func bigSum(terms ...*big.Int) *big.Int {
	sum := new(big.Int)
	for _, n := range terms {
		sum.Add(sum, n)
	}
	return sum
}

func bigProduct(factors ...*big.Int) *big.Int {
	product := big.NewInt(1)
	for _, n := range factors {
		product.Mul(product, n)
	}
	return product
}

func (a surd) plus(b surd) surd { return surd{bigSum(a.p, b.p), bigSum(a.q, b.q)} }

func (a surd) times(b surd) surd {
	three := big.NewInt(3)
	return surd{
		bigSum(bigProduct(a.p, b.p), bigProduct(three, a.q, b.q)),
		bigSum(bigProduct(a.p, b.q), bigProduct(a.q, b.p)),
	}
}

// sign: the part with the greater square decides; the squares are alike at 0
// alone.
func (a surd) sign() int {
	if bigProduct(a.p, a.p).Cmp(bigProduct(big.NewInt(3), a.q, a.q)) > 0 {
		return a.p.Sign()
	}
	return a.q.Sign()
}

// marginOf: 2 F² less f0 (f0 - E).
func marginOf(f0, p, q, p2, q2 int64) surd {
	f, e, whole := surdOf(p, q), surdOf(p2, q2), surdOf(f0, 0)
	least := whole.times(surdOf(-1, 0).times(whole).plus(e))
	return surdOf(2, 0).times(f).times(f).plus(least)
}

func areRealByRule(f0, p, q, p2, q2 int64) bool {
	return allFrom([]int64{f0}, 0, realMost) && allFrom([]int64{p, q, p2, q2}, -realMost, realMost) && surdOf(p2, q2).sign() >= 0
}

func certainByRule(f0, p, q, p2, q2 int64) bool {
	return areRealByRule(f0, p, q, p2, q2) && marginOf(f0, p, q, p2, q2).sign() > 0
}

// realParts: of a structure that Signed tells, P and Q of its factor.
func realParts(atoms []impl.Atom, h impl.Hkl) (int64, int64) {
	sum, ok := exactByRule(atoms, h)
	p, q, real := impl.CycReal(sum)
	if !ok || !real {
		panic("no structure with a sign")
	}
	return p, q
}

// signedAtoms: a structure that Signed tells, with no F below 0, its origin
// moved by halves: a heavy atom there, and others with their opposites.
func (d *dice) signedAtoms(count int, heavy, most int64) []impl.Atom {
	moved := atom(6*d.between(0, 1), 6*d.between(0, 1), 6*d.between(0, 1), heavy)
	out := []impl.Atom{moved}
	for range count {
		a := d.specialAtom(11)
		if d.between(0, 1) == 0 {
			a = d.atom(11)
		}
		a.F = d.between(0, most)
		out = append(out, a, across(a))
	}
	return out
}

func signed(numbers ...int64) []impl.Signed3 {
	out := []impl.Signed3{}
	for i := 0; i+3 < len(numbers); i += 4 {
		out = append(out, impl.Signed3{H: numbers[i], K: numbers[i+1], L: numbers[i+2], Sign: numbers[i+3]})
	}
	return out
}

func signedOf(h impl.Hkl, sign int64) impl.Signed3 {
	return impl.Signed3{H: h.H, K: h.K, L: h.L, Sign: sign}
}

func hklOfSigned(s impl.Signed3) impl.Hkl { return hkl(s.H, s.K, s.L) }

func sumOfHkls(a, b impl.Hkl) impl.Hkl { return hkl(a.H+b.H, a.K+b.K, a.L+b.L) }

func areSignsByRule(signs []impl.Signed3) bool {
	seen := map[impl.Hkl]bool{}
	for _, s := range signs {
		if !isHklByRule(hklOfSigned(s)) || s.Sign != 1 && s.Sign != -1 {
			return false
		}
		seen[hklOfSigned(s)] = true
	}
	return len(signs) <= signsMost && len(seen) == len(signs)
}

// triplesByRule: of all triples, whatever they add up to, those that count, as
// places in the list.
func triplesByRule(signs []impl.Signed3) [][3]int {
	out := [][3]int{}
	for i := range signs {
		for j := i + 1; j < len(signs); j++ {
			for k := range signs {
				if sumOfHkls(hklOfSigned(signs[i]), hklOfSigned(signs[j])) == hklOfSigned(signs[k]) {
					out = append(out, [3]int{i, j, k})
				}
			}
		}
	}
	return out
}

func tripletByRule(signs []impl.Signed3) (int64, int64) {
	counts := map[int64]int64{}
	if areSignsByRule(signs) {
		for _, p := range triplesByRule(signs) {
			counts[signs[p[0]].Sign*signs[p[1]].Sign*signs[p[2]].Sign]++
		}
	}
	return counts[1], counts[-1]
}

// sumToByRule: over the pairs that add up to h the products of the signs, and
// how many pairs there are.
func sumToByRule(signs []impl.Signed3, h impl.Hkl) (int64, int64) {
	sum, pairs := int64(0), int64(0)
	for i := range signs {
		for j := range i {
			if sumOfHkls(hklOfSigned(signs[i]), hklOfSigned(signs[j])) == h {
				sum += signs[i].Sign * signs[j].Sign
				pairs++
			}
		}
	}
	return sum, pairs
}

func deduceByRule(signs []impl.Signed3, h impl.Hkl, atLeast int64) int64 {
	if !areSignsByRule(signs) || !isHklByRule(h) || !allFrom([]int64{atLeast}, 1, signsMost) {
		return 0
	}
	sum, _ := sumToByRule(signs, h)
	switch {
	case sum >= atLeast:
		return 1
	case -sum >= atLeast:
		return -1
	}
	return 0
}

// signsOf: reflections up to most, none twice, with drawn signs.
func (d *dice) signsOf(count int, most int64) []impl.Signed3 {
	out, seen := []impl.Signed3{}, map[impl.Hkl]bool{}
	for range 8 * count {
		if h := d.hkl(most); len(out) < count && !seen[h] {
			seen[h] = true
			out = append(out, signedOf(h, 2*d.between(0, 1)-1))
		}
	}
	return out
}

// signAtHalves: the sign of h where a single atom lies at halves.
func signAtHalves(h impl.Hkl, halves [3]int64) int64 {
	if dot(h, halves)%2 == 0 {
		return 1
	}
	return -1
}

// pairedSigns: just so many pairs add up to (4, 0, 0), of two signs that are
// alike and of two that are not; of any other two the L do not.
func pairedSigns(d *dice, alike, unlike int64) []impl.Signed3 {
	out := []impl.Signed3{}
	for n := range alike + unlike {
		one, other := 2*d.between(0, 1)-1, int64(1)
		if n >= alike {
			other = -1
		}
		out = append(out, impl.Signed3{H: n - 15, L: 1, Sign: one}, impl.Signed3{H: 19 - n, L: -1, Sign: one * other})
	}
	return shuffledList(d, out)
}

func handSigns() []impl.Signed3 {
	return signed(1, 0, 0, -1, 0, 1, 0, 1, 1, 1, 0, -1, 2, 1, 0, -1)
}

// wrongSigned: each is none, by one number alone.
func wrongSigned() []impl.Signed3 {
	out := []impl.Signed3{}
	for _, h := range wrongHkls() {
		out = append(out, signedOf(h, 1), signedOf(h, -1))
	}
	for _, s := range []int64{0, 2, -2, 3, 1 << 32, 1<<32 + 1, -1<<32 - 1, math.MaxInt64, math.MinInt64} {
		out = append(out, signed(7, 8, 9, s, 0, 0, 0, s, 100, -100, 100, s)...)
	}
	return out
}

func nodeIn(a int64) impl.Step { return impl.Step{Op: kindIn, A: a} }

func nodeSum(a, b int64) impl.Step { return impl.Step{Op: kindSum, A: a, B: b} }

func nodeProduct(a, b int64) impl.Step { return impl.Step{Op: kindProduct, A: a, B: b} }

func nodeMinus(a int64) impl.Step { return impl.Step{Op: kindMinus, A: a} }

func nodeConst(a int64) impl.Step { return impl.Step{Op: kindConst, A: a} }

// namedBy: the inputs and the nodes that a step names, and the numbers that it
// does not use.
func namedBy(s impl.Step) (inputs, nodes, idle []int64, ok bool) {
	switch s.Op {
	case kindIn:
		return []int64{s.A}, nil, []int64{s.B}, true
	case kindSum, kindProduct:
		return nil, []int64{s.A, s.B}, nil, true
	case kindMinus:
		return nil, []int64{s.A}, []int64{s.B}, true
	case kindConst:
		return nil, nil, []int64{s.B}, true
	}
	return nil, nil, nil, false
}

func isTapeByRule(tape []impl.Step, inputs int64) bool {
	if len(tape) > tapeMost || !allFrom([]int64{inputs}, 0, inputsMost) {
		return false
	}
	for i, s := range tape {
		ins, nodes, idle, ok := namedBy(s)
		if !ok || !allFrom(ins, 0, inputs-1) || !allFrom(nodes, 0, int64(i)-1) || !allFrom(idle, 0, 0) {
			return false
		}
	}
	return true
}

func hasValueByRule(tape []impl.Step, xs []int64) bool {
	return len(tape) > 0 && isTapeByRule(tape, int64(len(xs)))
}

// reckonByRule: the nodes' values without bounds, but that settle changes or
// refuses each; nothing where it refuses one.
func reckonByRule(tape []impl.Step, xs []int64, settle func(*big.Int) bool) []*big.Int {
	values := []*big.Int{}
	for _, s := range tape {
		z := new(big.Int)
		switch s.Op {
		case kindIn:
			z.SetInt64(xs[s.A])
		case kindSum:
			z.Add(values[s.A], values[s.B])
		case kindProduct:
			z.Mul(values[s.A], values[s.B])
		case kindMinus:
			z.Neg(values[s.A])
		case kindConst:
			z.SetInt64(s.A)
		}
		if !settle(z) {
			return nil
		}
		values = append(values, z)
	}
	return values
}

func toResidue(z *big.Int) bool {
	z.Mod(z, big.NewInt(tapePrime))
	return true
}

func valueByRule(tape []impl.Step, xs []int64) (int64, bool) {
	if !hasValueByRule(tape, xs) {
		return 0, false
	}
	return reckonByRule(tape, xs, toResidue)[len(tape)-1].Int64(), true
}

// depthByRule is for a tape: the last node's value over whole numbers, and
// whether none leaves the depth.
func depthByRule(tape []impl.Step, xs []int64) (int64, bool) {
	values := reckonByRule(tape, xs, func(z *big.Int) bool { return z.CmpAbs(big.NewInt(depthMost)) <= 0 })
	if len(values) == 0 {
		return 0, false
	}
	return values[len(values)-1].Int64(), true
}

// degreeAlong: no node is of a higher one along the input.
func degreeAlong(tape []impl.Step, along int64) int64 {
	degrees := []int64{}
	for _, s := range tape {
		degree := int64(0)
		switch s.Op {
		case kindIn:
			if s.A == along {
				degree = 1
			}
		case kindSum:
			degree = max(degrees[s.A], degrees[s.B])
		case kindProduct:
			degree = min(degrees[s.A]+degrees[s.B], tapePrime)
		case kindMinus:
			degree = degrees[s.A]
		}
		degrees = append(degrees, degree)
	}
	return slices.Max(degrees)
}

// slopeByDifferences: a derivative is the first difference less half the second
// one and a third of the third one, and so on up to the degree, where that is
// below the prime.
func slopeByDifferences(tape []impl.Step, xs []int64, along int64) int64 {
	at := slices.Clone(xs)
	at[along] %= tapePrime
	row := []*big.Int{}
	for range degreeAlong(tape, along) + 1 {
		value, _ := valueByRule(tape, at)
		row = append(row, big.NewInt(value))
		at[along]++
	}
	sum, prime := new(big.Int), big.NewInt(tapePrime)
	for k := int64(1); len(row) > 1; k++ {
		for i := range len(row) - 1 {
			row[i].Sub(row[i+1], row[i])
		}
		row = row[:len(row)-1]
		part := bigProduct(row[0], new(big.Int).ModInverse(big.NewInt(k), prime))
		if k%2 == 0 {
			part.Neg(part)
		}
		sum.Add(sum, part)
	}
	return sum.Mod(sum, prime).Int64()
}

// slopeByPaths: over all ways from the last node down to the input, each with
// the other factors on it; what a node brings is asked once. For tapes of a
// degree of which there are not so many differences.
func slopeByPaths(tape []impl.Step, xs []int64, along int64) int64 {
	values, prime := reckonByRule(tape, xs, toResidue), big.NewInt(tapePrime)
	known := map[int64]*big.Int{}
	var from func(node int64) *big.Int
	from = func(node int64) *big.Int {
		if z, ok := known[node]; ok {
			return z
		}
		s, z := tape[node], new(big.Int)
		switch {
		case s.Op == kindIn && s.A == along:
			z.SetInt64(1)
		case s.Op == kindSum:
			z.Add(from(s.A), from(s.B))
		case s.Op == kindMinus:
			z.Neg(from(s.A))
		case s.Op == kindProduct:
			z = bigSum(bigProduct(from(s.A), values[s.B]), bigProduct(values[s.A], from(s.B)))
		}
		known[node] = z.Mod(z, prime)
		return known[node]
	}
	return from(int64(len(tape) - 1)).Int64()
}

// A tried is an input's number and what the last node's value is with it.
type tried struct{ x, value int64 }

// triedByRule: one less and one more, as far as they are within; false where a
// value leaves the depth.
func triedByRule(tape []impl.Step, at []int64, i int) ([]tried, bool) {
	out := []tried{}
	for _, x := range []int64{at[i] - 1, at[i] + 1} {
		if !allFrom([]int64{x}, -xMost, xMost) {
			continue
		}
		other := slices.Clone(at)
		other[i] = x
		value, ok := depthByRule(tape, other)
		if !ok {
			return nil, false
		}
		out = append(out, tried{x, value})
	}
	return out, true
}

// descentByRule has the inputs behind each round, the first ones at the front;
// nothing where they are refused.
func descentByRule(tape []impl.Step, xs []int64, rounds int64) [][]int64 {
	if !hasValueByRule(tape, xs) || !allFrom(xs, -xMost, xMost) || !allFrom([]int64{rounds}, 0, roundsMost) {
		return nil
	}
	if _, ok := depthByRule(tape, xs); !ok {
		return nil
	}
	out := [][]int64{slices.Clone(xs)}
	for range rounds {
		at := slices.Clone(out[len(out)-1])
		for i := range at {
			now, _ := depthByRule(tape, at)
			tries, ok := triedByRule(tape, at, i)
			if !ok {
				return nil
			}
			best := tried{at[i], now}
			for _, try := range tries {
				if try.value < best.value {
					best = try
				}
			}
			at[i] = best.x
		}
		out = append(out, at)
	}
	return out
}

// tape: a drawn one, of no higher degree than most in all, its constants up to
// wide. Nodes that are near are named most often.
func (d *dice) tape(inputs int64, count int, most, wide int64) []impl.Step {
	out, degrees := []impl.Step{}, []int64{}
	for i := range int64(count) {
		a, b := int64(0), int64(0)
		if i > 0 {
			a, b = d.between(max(0, i-3), i-1), d.between(0, i-1)
		}
		if d.between(0, 1) == 0 {
			a, b = b, a
		}
		kind := []int64{kindIn, kindSum, kindSum, kindProduct, kindProduct, kindProduct, kindMinus, kindConst}[d.between(0, 7)]
		if i == 0 || i < inputs && d.between(0, 2) > 0 {
			kind = []int64{kindIn, kindIn, kindConst}[d.between(0, 2)]
		}
		if kind == kindProduct && degrees[a]+degrees[b] > most {
			kind = kindSum
		}
		if kind == kindIn && inputs == 0 {
			kind = kindConst
		}
		switch kind {
		case kindIn:
			out, degrees = append(out, nodeIn(d.between(0, inputs-1))), append(degrees, 1)
		case kindSum:
			out, degrees = append(out, nodeSum(a, b)), append(degrees, max(degrees[a], degrees[b]))
		case kindProduct:
			out, degrees = append(out, nodeProduct(a, b)), append(degrees, degrees[a]+degrees[b])
		case kindMinus:
			out, degrees = append(out, nodeMinus(a)), append(degrees, degrees[a])
		case kindConst:
			out, degrees = append(out, nodeConst(d.between(-wide, wide))), append(degrees, 0)
		}
	}
	return out
}

// xs: inputs of all sizes, at the edges of residues too.
func (d *dice) xs(count int) []int64 {
	out := d.numbers(count, 20)
	for i := range out {
		switch d.between(0, 5) {
		case 0:
			out[i] = d.wildNumber()
		case 1:
			out[i] = d.between(-2, 2)*tapePrime + d.between(-1, 1)
		case 2:
			out[i] = []int64{math.MinInt64, math.MinInt64 + 1, math.MaxInt64, math.MaxInt64 - 1}[d.between(0, 3)]
		}
	}
	return out
}

// usesOf: how often each node is named by others.
func usesOf(tape []impl.Step) []int {
	out := make([]int, len(tape))
	for _, s := range tape {
		_, nodes, _, _ := namedBy(s)
		for _, n := range nodes {
			out[n]++
		}
	}
	return out
}

// handTape: x y + x².
func handTape() []impl.Step {
	return []impl.Step{nodeIn(0), nodeIn(1), nodeProduct(0, 1), nodeProduct(0, 0), nodeSum(2, 3)}
}

// bowlTape: the sum of (x - a)² over the inputs, lowest at these.
func bowlTape(lowest ...int64) []impl.Step {
	out := []impl.Step{nodeConst(0)}
	for i, a := range lowest {
		sum := int64(len(out) - 1)
		out = append(out, nodeIn(int64(i)), nodeConst(-a), nodeSum(sum+1, sum+2), nodeProduct(sum+3, sum+3), nodeSum(sum, sum+4))
	}
	return out
}

// towerTape: x squared so many times.
func towerTape(squares int) []impl.Step {
	out := []impl.Step{nodeIn(0)}
	for i := range int64(squares) {
		out = append(out, nodeProduct(i, i))
	}
	return out
}

// wrongNumbers: each is none of count numbers from 0 on.
func wrongNumbers(count int64) []int64 {
	return []int64{-1, count, count + 1, 1 << 32, -1 << 32, math.MaxInt64, math.MinInt64}
}

// wrongTapes: each is none for two inputs, by one step alone.
func wrongTapes() [][]impl.Step {
	good := handTape()
	list := [][]impl.Step{slices.Repeat([]impl.Step{nodeConst(1)}, tapeMost+1), slices.Repeat([]impl.Step{nodeConst(1)}, 5000)}
	for place := range int64(len(good) + 1) {
		steps := []impl.Step{}
		for _, op := range []int64{0, 6, -1, 7, 1 << 32, 1<<32 + 1, math.MaxInt64, math.MinInt64} {
			steps = append(steps, impl.Step{Op: op})
		}
		for _, n := range wrongNumbers(2) {
			steps = append(steps, nodeIn(n))
		}
		for _, n := range wrongNumbers(place) {
			steps = append(steps, nodeSum(n, 0), nodeSum(0, n), nodeProduct(n, 0), nodeProduct(0, n), nodeMinus(n))
		}
		for _, n := range []int64{1, -1, 1 << 32, math.MaxInt64, math.MinInt64} {
			for _, s := range []impl.Step{nodeIn(0), nodeMinus(0), nodeConst(0)} {
				s.B = n
				steps = append(steps, s)
			}
		}
		for _, s := range steps {
			list = append(list, slices.Insert(slices.Clone(good), int(place), s))
		}
	}
	return list
}
