package tests

import (
	"cmp"
	"math"
	"math/big"
	"slices"

	"loop.example/g00055/impl"
)

// The limits of chapter 11 as the document writes them.
const (
	normalMost  = 50
	energyMost  = 1000
	facetsMost  = 40
	facetsLeast = 3
)

// farAway is beyond every corner of every shape, as these are at most
// 2 * normalMost * energyMost away along x and y.
const farAway = 1000000

func facet(nx, ny, g int64) impl.Facet { return impl.Facet{NX: nx, NY: ny, G: g} }

func corner(x, y, d int64) impl.Corner { return impl.Corner{X: x, Y: y, D: d} }

type shape = []impl.Facet

func isFacetByRule(f impl.Facet) bool {
	if f.NX < -normalMost || f.NX > normalMost || f.NY < -normalMost || f.NY > normalMost || f.G < 1 || f.G > energyMost {
		return false
	}
	for by := int64(2); by <= normalMost; by++ {
		if f.NX%by == 0 && f.NY%by == 0 {
			return false
		}
	}
	return true
}

// A place is a point of the plane, exactly.
type place struct{ x, y *big.Rat }

func placeOf(x, y int64) place { return place{big.NewRat(x, 1), big.NewRat(y, 1)} }

func samePlace(a, b place) bool { return a.x.Cmp(b.x) == 0 && a.y.Cmp(b.y) == 0 }

func comparePlaces(a, b place) int {
	if first := a.x.Cmp(b.x); first != 0 {
		return first
	}
	return a.y.Cmp(b.y)
}

// reach is nx x + ny y at the place.
func (p place) reach(nx, ny int64) *big.Rat {
	x := new(big.Rat).Mul(p.x, big.NewRat(nx, 1))
	return x.Add(x, new(big.Rat).Mul(p.y, big.NewRat(ny, 1)))
}

// above is how far the place lies above the facet's line, in its own measure.
func (p place) above(f impl.Facet) *big.Rat {
	out := p.reach(f.NX, f.NY)
	return out.Sub(out, big.NewRat(f.G, 1))
}

// between is where the stretch from p to q has share of its way behind it.
func (p place) between(q place, share *big.Rat) place {
	part := func(a, b *big.Rat) *big.Rat {
		way := new(big.Rat).Sub(b, a)
		return way.Add(a, way.Mul(way, share))
	}
	return place{part(p.x, q.x), part(p.y, q.y)}
}

// cut leaves of a polygon what belongs to the facet, going along its sides.
func cut(polygon []place, f impl.Facet) []place {
	out := []place{}
	for i, here := range polygon {
		next := polygon[(i+1)%len(polygon)]
		a, b := here.above(f), next.above(f)
		if a.Sign() <= 0 {
			out = append(out, here)
		}
		if a.Sign()*b.Sign() < 0 {
			way := new(big.Rat).Sub(a, b)
			out = append(out, here.between(next, way.Quo(a, way)))
		}
	}
	return out
}

// polygonByRule: a great square of which each facet cuts off what it does not
// have; the sides go the other way round than a clock's hand.
func polygonByRule(facets shape) []place {
	polygon := []place{placeOf(-farAway, -farAway), placeOf(farAway, -farAway), placeOf(farAway, farAway), placeOf(-farAway, farAway)}
	for _, f := range facets {
		polygon = cut(polygon, f)
	}
	return polygon
}

// isBoundedByRule: nothing of the great square's rim is left.
func isBoundedByRule(facets shape) bool {
	far := big.NewRat(farAway, 1)
	return !slices.ContainsFunc(polygonByRule(facets), func(p place) bool {
		return new(big.Rat).Abs(p.x).Cmp(far) == 0 || new(big.Rat).Abs(p.y).Cmp(far) == 0
	})
}

func isShapeByRule(facets shape) bool {
	if len(facets) < facetsLeast || len(facets) > facetsMost {
		return false
	}
	normals := map[[2]int64]bool{}
	for _, f := range facets {
		if !isFacetByRule(f) {
			return false
		}
		normals[[2]int64{f.NX, f.NY}] = true
	}
	return len(normals) == len(facets) && isBoundedByRule(facets)
}

// cornerOf: the fractions are in lowest terms, so the least number that both
// denominators divide leaves nothing that divides all three.
func cornerOf(p place) impl.Corner {
	a, b := p.x.Denom().Int64(), p.y.Denom().Int64()
	d := a / gcd(a, b) * b
	return corner(p.x.Num().Int64()*(d/a), p.y.Num().Int64()*(d/b), d)
}

func cornersByRule(facets shape) []impl.Corner {
	out := []impl.Corner{}
	if !isShapeByRule(facets) {
		return out
	}
	polygon := polygonByRule(facets)
	first := slices.IndexFunc(polygon, func(p place) bool { return samePlace(p, slices.MinFunc(polygon, comparePlaces)) })
	for i := range polygon {
		out = append(out, cornerOf(polygon[(first+i)%len(polygon)]))
	}
	return out
}

// showsByRule goes along each facet's line, from the point next to (0, 0) either
// way, as far as the others allow it.
func showsByRule(facets shape) []int64 {
	out := []int64{}
	if !isShapeByRule(facets) {
		return out
	}
	for i, f := range facets {
		if low, high := stretchByRule(facets, f); low.Cmp(high) < 0 {
			out = append(out, int64(i))
		}
	}
	return out
}

func stretchByRule(facets shape, f impl.Facet) (*big.Rat, *big.Rat) {
	size := f.NX*f.NX + f.NY*f.NY
	foot := place{big.NewRat(f.G*f.NX, size), big.NewRat(f.G*f.NY, size)}
	low, high := big.NewRat(-farAway, 1), big.NewRat(farAway, 1)
	for _, other := range facets {
		room, slope := foot.above(other), other.NY*f.NX-other.NX*f.NY
		room.Neg(room)
		switch {
		case slope == 0 && room.Sign() < 0:
			return high, low
		case slope > 0 && room.Quo(room, big.NewRat(slope, 1)).Cmp(high) < 0:
			high = room
		case slope < 0 && room.Quo(room, big.NewRat(slope, 1)).Cmp(low) > 0:
			low = room
		}
	}
	return low, high
}

// coveredByRule asks about points: does facet i have all that j and k have in
// common? That is an angle: where their lines cross, and two rays from there.
func coveredByRule(facets shape, i, j, k int64) bool {
	places := []int64{i, j, k}
	if len(facets) > facetsMost || i == j || i == k || j == k || slices.Min(places) < 0 || slices.Max(places) >= int64(len(facets)) {
		return false
	}
	f, a, b := facets[i], facets[j], facets[k]
	if !isFacetByRule(f) || !isFacetByRule(a) || !isFacetByRule(b) {
		return false
	}
	turn := a.NX*b.NY - a.NY*b.NX
	if turn == 0 {
		return false
	}
	tip := place{big.NewRat(a.G*b.NY-b.G*a.NY, turn), big.NewRat(a.NX*b.G-b.NX*a.G, turn)}
	return tip.above(f).Sign() <= 0 && fallsAlong(f, a, b) && fallsAlong(f, b, a)
}

// fallsAlong: the ray goes along a's line, to the side where b has its points.
func fallsAlong(f, a, b impl.Facet) bool {
	x, y := -a.NY, a.NX
	if b.NX*x+b.NY*y > 0 {
		x, y = -x, -y
	}
	return f.NX*x+f.NY*y <= 0
}

// reasonByRule looks at all pairs, and takes the least of those that cover.
func reasonByRule(facets shape, i int64) (int64, int64) {
	pairs := [][]int64{}
	if isShapeByRule(facets) {
		for k := range int64(len(facets)) {
			for j := range k {
				if coveredByRule(facets, i, j, k) {
					pairs = append(pairs, []int64{j, k})
				}
			}
		}
	}
	if len(pairs) == 0 {
		return -1, -1
	}
	first := slices.MinFunc(pairs, slices.Compare[[]int64])
	return first[0], first[1]
}

func supportByRule(facets shape, x, y int64) (int64, int64) {
	if !isShapeByRule(facets) || max(x, y) > normalMost || min(x, y) < -normalMost {
		return 0, 0
	}
	most := new(big.Rat)
	for _, p := range polygonByRule(facets) {
		if reach := p.reach(x, y); reach.Cmp(most) > 0 {
			most = reach
		}
	}
	return most.Num().Int64(), most.Denom().Int64()
}

// normals: all of small numbers up to most, in the order in which one turns to
// the left, from the one along x on.
func normals(most int64) [][2]int64 {
	out := [][2]int64{}
	for x := -most; x <= most; x++ {
		for y := -most; y <= most; y++ {
			if gcd(x, y) == 1 {
				out = append(out, [2]int64{x, y})
			}
		}
	}
	angle := func(n [2]int64) float64 {
		return math.Mod(math.Atan2(float64(n[1]), float64(n[0]))+2*math.Pi, 2*math.Pi)
	}
	slices.SortFunc(out, func(a, b [2]int64) int { return cmp.Compare(angle(a), angle(b)) })
	return out
}

// manySided: a shape whose every facet shows and every corner is a whole point.
// Its sides are the given normals, turned by a quarter, one behind the other;
// with each normal the opposite one has to be there.
func manySided(normals [][2]int64) shape {
	out := shape{}
	x, y := int64(0), int64(0)
	for _, n := range normals[:len(normals)/2] {
		x, y = x+n[1], y-n[0]
	}
	// twice as long, so that the middle is a whole point; it lies at (0, 0)
	for _, n := range normals {
		out = append(out, facet(n[0], n[1], n[0]*x+n[1]*y))
		x, y = x-2*n[1], y+2*n[0]
	}
	return out
}

// someNormals: count of the shortest ones, count an even number, with each one
// the opposite one.
func someNormals(count int) [][2]int64 {
	all := normals(5)
	half := all[:len(all)/2]
	size := func(n [2]int64) int64 { return n[0]*n[0] + n[1]*n[1] }
	sorted := slices.Clone(half)
	slices.SortStableFunc(sorted, func(a, b [2]int64) int { return int(size(a) - size(b)) })
	few := sorted[:count/2]
	out := slices.DeleteFunc(slices.Clone(half), func(n [2]int64) bool { return !slices.Contains(few, n) })
	for _, n := range out[:count/2] {
		out = append(out, [2]int64{-n[0], -n[1]})
	}
	return out
}

func (d *dice) normal(most int64) [2]int64 {
	for {
		if x, y := d.between(-most, most), d.between(-most, most); gcd(x, y) == 1 {
			return [2]int64{x, y}
		}
	}
}

// shapeOf draws normals until they hold a bounded part; energy tells each one's
// G, which is brought into range.
func (d *dice) shapeOf(count int, most int64, energy func(n [2]int64) int64) shape {
	for {
		drawn := [][2]int64{}
		for len(drawn) < count {
			if n := d.normal(most); !slices.Contains(drawn, n) {
				drawn = append(drawn, n)
			}
		}
		out := shape{}
		for _, n := range drawn {
			out = append(out, facet(n[0], n[1], min(max(energy(n), 1), energyMost)))
		}
		if isBoundedByRule(out) {
			return out
		}
	}
}

// drawnShape: every G as it comes, so that few facets show.
func (d *dice) drawnShape(count int, most int64) shape {
	top := []int64{3, 20, energyMost}[d.between(0, 2)]
	return d.shapeOf(count, most, func([2]int64) int64 { return d.between(1, top) })
}

// roundShape: lines about as far from (0, 0) each, so that many facets show, and
// those that do not are near to it.
func (d *dice) roundShape(count int, most int64) shape {
	far := float64(d.between(3, energyMost/normalMost))
	return d.shapeOf(count, most, func(n [2]int64) int64 { return int64(math.Round(far * math.Hypot(float64(n[0]), float64(n[1])))) })
}

// bundledShape: lines through a few whole points, three and more through one.
func (d *dice) bundledShape(count int, most int64) shape {
	tips := [][2]int64{{5, 2}, {-3, 4}, {-4, -3}, {3, -5}}
	return d.shapeOf(count, most, func(n [2]int64) int64 {
		far := int64(0)
		for _, tip := range tips {
			far = max(far, n[0]*tip[0]+n[1]*tip[1])
		}
		return far + max(d.between(-6, 1), 0)
	})
}

func (d *dice) shuffled(facets shape) shape {
	out := slices.Clone(facets)
	for i := range out {
		k := d.between(0, int64(i))
		out[i], out[k] = out[k], out[i]
	}
	return out
}

func reversed(facets shape) shape {
	out := slices.Clone(facets)
	slices.Reverse(out)
	return out
}

// square: the four facets along x and y, g away each.
func square(g int64) shape {
	return shape{facet(1, 0, g), facet(0, 1, g), facet(-1, 0, g), facet(0, -1, g)}
}

// with: the facets and more of them behind, in new memory.
func with(facets shape, more ...impl.Facet) shape { return slices.Concat(facets, more) }

// handShapes: each of them small enough to be seen through.
func handShapes() []shape {
	return []shape{
		{facet(1, 0, 1), facet(-1, 1, 1), facet(-1, -1, 1)},
		{facet(2, 1, 3), facet(-1, 1, 2), facet(-1, -3, 5)},
		{facet(1, 0, 1), facet(0, 1, 2), facet(-1, -1, 3)},
		square(1), square(3), square(energyMost),
		with(square(3), facet(1, 1, 5), facet(-1, 1, 6), facet(-1, -1, 7), facet(1, -1, 4)),
		with(square(3), facet(1, 1, 6), facet(2, 1, 9), facet(1, 2, 9), facet(3, 2, 15), facet(-1, 1, 6)),
		with(square(3), facet(1, 1, 1000), facet(1, 2, 1000), facet(2, 1, 1000)),
		{facet(1, 1, 1), facet(-1, 1, 1), facet(-1, -1, 1), facet(1, -1, 1)},
		{facet(1, 0, 5), facet(-1, 0, 1), facet(0, 1, 1), facet(0, -1, 7), facet(1, 1, 3)},
		{facet(50, 49, 1000), facet(-50, 49, 1), facet(1, -50, 999)},
		{facet(50, 49, 1), facet(49, 48, 1000), facet(-49, -48, 1000), facet(-50, -49, 1)},
	}
}

// shapes: those by hand, with many sides, and drawn ones of all kinds.
func (d *dice) shapes() []shape {
	out := handShapes()
	for count := 4; count <= facetsMost; count += 6 {
		out = append(out, manySided(someNormals(count)))
	}
	for _, count := range []int{3, 4, 5, 7, 10, 16, facetsMost} {
		for _, most := range []int64{5, 12, normalMost} {
			out = append(out, d.drawnShape(count, most), d.roundShape(count, most), d.bundledShape(count, most))
		}
	}
	for _, facets := range slices.Clone(out) {
		out = append(out, d.shuffled(facets))
	}
	return out
}

// wrongFacets: each is none by one thing alone.
func wrongFacets() shape {
	out := shape{
		{}, facet(0, 0, 1), facet(0, 0, energyMost),
		facet(normalMost+1, 1, 5), facet(-normalMost-1, 1, 5), facet(1, normalMost+1, 5), facet(1, -normalMost-1, 5),
		facet(2, 0, 5), facet(0, 2, 5), facet(-2, 0, 5), facet(0, -2, 5), facet(normalMost, 0, 5), facet(0, -normalMost, 5),
		facet(2, 2, 5), facet(-3, 3, 5), facet(6, -9, 5), facet(-14, -35, 5), facet(49, 35, 5), facet(47, 47, 5), facet(50, -50, 5),
	}
	for _, g := range []int64{0, -1, energyMost + 1, -energyMost, 1 << 32, math.MaxInt64, math.MinInt64, math.MinInt64 + 1} {
		out = append(out, facet(2, 1, g), facet(1, 1, g), facet(-50, 49, g))
	}
	for _, n := range []int64{1<<32 + 1, -1 << 32, math.MaxInt64, math.MinInt64, math.MinInt64 + 1, math.MaxInt64 - 1} {
		out = append(out, facet(n, 1, 5), facet(1, n, 5), facet(n, 0, 5), facet(0, n, 5), facet(n, n, 5), facet(n, n-1, 5), facet(n, 1, n))
	}
	return out
}

// unbounded: all normals lie on one side of a line, or on it.
func unbounded() []shape {
	return []shape{
		{facet(1, 0, 1), facet(0, 1, 1), facet(1, 1, 1)},
		{facet(1, 0, 1), facet(-1, 0, 1), facet(0, 1, 1)},
		{facet(1, 0, 1), facet(-1, 0, 1), facet(0, -1, 1), facet(1, -1, 1), facet(-3, -1, 4)},
		{facet(0, 1, 3), facet(0, -1, 3), facet(-1, 0, 2), facet(-1, 5, 2)},
		{facet(3, 7, 3), facet(-3, -7, 3), facet(7, -3, 2), facet(1, 2, 9), facet(1, -50, 9)},
		{facet(50, 49, 1), facet(-50, -49, 1), facet(49, 48, 1), facet(1, 0, 1)},
		{facet(1, 50, 7), facet(1, -50, 7), facet(1, 0, 1000)},
		{facet(-1, 50, 7), facet(1, 50, 7), facet(0, 1, 1), facet(-1, 7, 2)},
		{facet(50, 49, 1), facet(49, 50, 1), facet(1, 1, 1), facet(-1, 1, 1), facet(-49, 50, 5), facet(-50, 49, 1000)},
	}
}

// noShapes: each is none by one thing alone.
func noShapes() []shape {
	out := append(unbounded(), nil, shape{}, square(3)[:1], square(3)[:2], square(3)[:3], shape{facet(1, 0, 1), facet(-1, 0, 1)})
	for _, wrong := range wrongFacets() {
		for at := range 5 {
			out = append(out, slices.Insert(square(3), at, wrong))
		}
		out = append(out, shape{wrong, facet(-1, 1, 5), facet(-1, -1, 5)}, shape{wrong, wrong, wrong})
	}
	many := manySided(someNormals(facetsMost))
	for at := range 4 {
		twice := square(3)[at]
		other := twice
		other.G = 900
		out = append(out, with(square(3), twice), with(square(3), other), with(shape{other}, square(3)...))
		out = append(out, with(many, square(3)[at]), with(many, facet(50, 49, 1000)), with(many, many[:at+1]...), with(many, many...))
	}
	return append(out, slices.Repeat(square(1), 30))
}
