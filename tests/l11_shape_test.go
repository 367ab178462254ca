package tests

import (
	"math"
	"math/big"
	"slices"
	"sync"
	"testing"

	"loop.example/g00055/impl"
)

func TestShapeLimits(t *testing.T) {
	got := []int64{impl.MaxNormal, impl.MaxEnergy, impl.MaxFacets}
	if !slices.Equal(got, []int64{normalMost, energyMost, facetsMost}) {
		t.Error(got)
	}
}

func TestShapesByHand(t *testing.T) {
	type round = []impl.Corner
	whole := round{corner(-3, -3, 1), corner(3, -3, 1), corner(3, 3, 1), corner(-3, 3, 1)}
	for _, c := range []struct {
		facets  shape
		shows   []int64
		corners round
	}{
		// triangles, with whole corners and with fractions
		{shape{facet(1, 0, 1), facet(-1, 1, 1), facet(-1, -1, 1)}, []int64{0, 1, 2}, round{corner(-1, 0, 1), corner(1, -2, 1), corner(1, 2, 1)}},
		{shape{facet(-1, -1, 1), facet(-1, 1, 1), facet(1, 0, 1)}, []int64{0, 1, 2}, round{corner(-1, 0, 1), corner(1, -2, 1), corner(1, 2, 1)}},
		{shape{facet(1, 0, 1), facet(0, 1, 2), facet(-1, -1, 3)}, []int64{0, 1, 2}, round{corner(-5, 2, 1), corner(1, -4, 1), corner(1, 2, 1)}},
		{shape{facet(2, 1, 3), facet(-1, 1, 2), facet(-1, -3, 5)}, []int64{0, 1, 2}, round{corner(-11, -3, 4), corner(14, -13, 5), corner(1, 7, 3)}},
		{shape{facet(3, 2, 3), facet(-1, 0, 1), facet(0, -1, 1)}, []int64{0, 1, 2}, round{corner(-1, -1, 1), corner(5, -3, 3), corner(-1, 3, 1)}},
		{shape{facet(-3, -2, 3), facet(1, 0, 1), facet(0, 1, 1)}, []int64{0, 1, 2}, round{corner(-5, 3, 3), corner(1, -3, 1), corner(1, 1, 1)}},
		// squares: of two with the least x the one with the least y
		{square(1), []int64{0, 1, 2, 3}, round{corner(-1, -1, 1), corner(1, -1, 1), corner(1, 1, 1), corner(-1, 1, 1)}},
		{square(3), []int64{0, 1, 2, 3}, whole}, {reversed(square(3)), []int64{0, 1, 2, 3}, whole},
		{square(1000), []int64{0, 1, 2, 3}, round{corner(-1000, -1000, 1), corner(1000, -1000, 1), corner(1000, 1000, 1), corner(-1000, 1000, 1)}},
		{shape{facet(1, 1, 1), facet(-1, 1, 1), facet(-1, -1, 1), facet(1, -1, 1)}, []int64{0, 1, 2, 3}, round{corner(-1, 0, 1), corner(0, -1, 1), corner(1, 0, 1), corner(0, 1, 1)}},
		{shape{facet(1, 2, 1), facet(-2, 1, 1), facet(-1, -2, 1), facet(2, -1, 1)}, []int64{0, 1, 2, 3}, round{corner(-3, -1, 5), corner(1, -3, 5), corner(3, 1, 5), corner(-1, 3, 5)}},
		// one D for x and y, and numbers that divide two of the three alone
		{shape{facet(2, 3, 2), facet(4, 3, 3), facet(-1, 0, 1), facet(0, -1, 1)}, []int64{0, 1, 2, 3}, round{corner(-1, -1, 1), corner(3, -2, 2), corner(3, 2, 6), corner(-3, 4, 3)}},
		{shape{facet(1, 1, 2), facet(2, -1, 1), facet(-1, 0, 3), facet(-1, -1, 3)}, []int64{0, 1, 2, 3}, round{corner(-3, 0, 1), corner(-2, -7, 3), corner(1, 1, 1), corner(-3, 5, 1)}},
		{shape{facet(1, 1, 2), facet(2, -1, 1), facet(-1, 2, 2), facet(-1, -1, 3)}, []int64{0, 1, 2, 3}, round{corner(-8, -1, 3), corner(-2, -7, 3), corner(1, 1, 1), corner(2, 4, 3)}},
		// a corner is cut off, touched alone, or not reached
		{with(square(3), facet(1, 1, 5)), []int64{0, 1, 2, 3, 4}, round{corner(-3, -3, 1), corner(3, -3, 1), corner(3, 2, 1), corner(2, 3, 1), corner(-3, 3, 1)}},
		{with(square(3), facet(1, 1, 6)), []int64{0, 1, 2, 3}, whole},
		{with(square(3), facet(1, 1, 7)), []int64{0, 1, 2, 3}, whole},
		{with(square(3), facet(1, 1, 1000)), []int64{0, 1, 2, 3}, whole},
		{with(shape{facet(1, 1, 6)}, square(3)...), []int64{1, 2, 3, 4}, whole},
		{with(square(3), facet(1, 1, 6), facet(2, 1, 9), facet(1, 2, 9), facet(3, 2, 15)), []int64{0, 1, 2, 3}, whole},
		{with(square(3), facet(-1, -1, 5)), []int64{0, 1, 2, 3, 4}, round{corner(-3, -2, 1), corner(-2, -3, 1), corner(3, -3, 1), corner(3, 3, 1), corner(-3, 3, 1)}},
		{with(shape{facet(-2, -1, 8)}, square(3)...), []int64{0, 1, 2, 3, 4}, round{corner(-3, -2, 1), corner(-5, -6, 2), corner(3, -3, 1), corner(3, 3, 1), corner(-3, 3, 1)}},
		{with(square(3), facet(1, 1, 3)), []int64{0, 1, 2, 3, 4}, round{corner(-3, -3, 1), corner(3, -3, 1), corner(3, 0, 1), corner(0, 3, 1), corner(-3, 3, 1)}},
		// a side is cut off, is a point that is left, and is a stretch that is left
		{with(square(3), facet(1, 1, 1), facet(1, -1, 1)), []int64{1, 2, 3, 4, 5}, round{corner(-3, -3, 1), corner(-2, -3, 1), corner(1, 0, 1), corner(-2, 3, 1), corner(-3, 3, 1)}},
		{with(square(3), facet(1, 1, 3), facet(1, -1, 3)), []int64{1, 2, 3, 4, 5}, round{corner(-3, -3, 1), corner(0, -3, 1), corner(3, 0, 1), corner(0, 3, 1), corner(-3, 3, 1)}},
		{with(square(3), facet(1, 1, 4), facet(1, -1, 3)), []int64{0, 1, 2, 3, 4, 5}, round{corner(-3, -3, 1), corner(0, -3, 1), corner(3, 0, 1), corner(3, 1, 1), corner(1, 3, 1), corner(-3, 3, 1)}},
		// two with the least x, and the lower one has the greater Y, as its D is less
		{shape{facet(-7, 3, 2), facet(-1, 0, 1), facet(0, -1, 2), facet(1, 0, 1), facet(0, 1, 1)}, []int64{0, 1, 2, 3, 4}, round{corner(-1, -2, 1), corner(1, -2, 1), corner(1, 1, 1), corner(1, 7, 7), corner(-3, -5, 3)}},
		// a sliver between two lines that are all but one, and its far ends
		{shape{facet(50, 49, 1), facet(49, 48, 1000), facet(-49, -48, 1000), facet(-50, -49, 1)}, []int64{0, 1, 2, 3}, round{corner(-49048, 50049, 1), corner(-48952, 49951, 1), corner(49048, -50049, 1), corner(48952, -49951, 1)}},
	} {
		if !impl.ShapeOk(c.facets) {
			t.Error(c.facets)
		}
		if got := impl.Shows(c.facets); !slices.Equal(got, c.shows) {
			t.Error(c.facets, got)
		}
		if got := impl.Corners(c.facets); !slices.Equal(got, c.corners) {
			t.Error(c.facets, got)
		}
	}
}

// From MaxFacets sides down, all of them seen, the corners whole points.
func TestManySidedShapes(t *testing.T) {
	for count := 4; count <= facetsMost; count += 2 {
		facets := manySided(someNormals(count))
		want := []int64{}
		for i := range int64(count) {
			want = append(want, i)
			if j, k := impl.Reason(facets, i); j != -1 || k != -1 {
				t.Error(count, i, j, k)
			}
		}
		if got := impl.Shows(facets); !slices.Equal(got, want) {
			t.Error(count, got)
		}
		got := impl.Corners(facets)
		if len(got) != count || slices.ContainsFunc(got, func(c impl.Corner) bool { return c.D != 1 }) {
			t.Error(count, got)
		}
		for i, c := range got {
			if opposite := got[(i+count/2)%count]; opposite.X != -c.X || opposite.Y != -c.Y {
				t.Error(count, c, opposite)
			}
		}
	}
}

func TestShapesByRule(t *testing.T) {
	var d dice
	shown, touching, outside, fractions := 0, 0, 0, 0
	for _, facets := range d.shapes() {
		if !isShapeByRule(facets) || !impl.ShapeOk(facets) {
			t.Error(facets)
		}
		shows, corners := impl.Shows(facets), impl.Corners(facets)
		if !slices.Equal(shows, showsByRule(facets)) {
			t.Error(facets, shows)
		}
		if !slices.Equal(corners, cornersByRule(facets)) {
			t.Error(facets, corners)
		}
		shown += len(shows)
		for i, f := range facets {
			if slices.Contains(shows, int64(i)) {
				continue
			}
			if slices.ContainsFunc(corners, func(c impl.Corner) bool { return isOn(c, f) }) {
				touching++
			} else {
				outside++
			}
		}
		for _, c := range corners {
			if c.D > 1 {
				fractions++
			}
		}
	}
	if min(shown, touching, outside, fractions) < 200 {
		t.Error("too few of a kind:", shown, touching, outside, fractions)
	}
}

func isOn(c impl.Corner, f impl.Facet) bool { return f.NX*c.X+f.NY*c.Y == f.G*c.D }

// All triangles of small normals, with G from 1 to 2: each one that is bounded is
// a shape, and each other one none.
func TestAllSmallTriangles(t *testing.T) {
	bounded := 0
	for _, a := range normals(2) {
		for _, b := range normals(2) {
			for _, c := range normals(2) {
				for g := range int64(8) {
					facets := shape{facet(a[0], a[1], 1+g%2), facet(b[0], b[1], 1+g/2%2), facet(c[0], c[1], 1+g/4)}
					right := isShapeByRule(facets)
					if impl.ShapeOk(facets) != right || !slices.Equal(impl.Corners(facets), cornersByRule(facets)) {
						t.Fatal(facets)
					}
					if right {
						bounded++
					}
				}
			}
		}
	}
	// of the 8 lines three are taken in 56 ways, with two ways of the signs for
	// each, in 6 orders and with 8 ways of the Gs
	if bounded != 56*2*6*8 {
		t.Error(bounded)
	}
}

// P15: each corner of a shape is a point of all facets, and lies on two that show.
func TestCornersLieOnTwoThatShow(t *testing.T) {
	var d dice
	for _, facets := range d.shapes() {
		shows, corners := impl.Shows(facets), impl.Corners(facets)
		if len(corners) < 3 || len(corners) != len(shows) {
			t.Error(facets, corners, shows)
		}
		for _, c := range corners {
			if c.D < 1 || gcd(gcd(c.X, c.Y), c.D) != 1 {
				t.Error(facets, c)
			}
			for _, f := range facets {
				if f.NX*c.X+f.NY*c.Y > f.G*c.D {
					t.Error(facets, c, f)
				}
			}
			seen := 0
			for _, i := range shows {
				if isOn(c, facets[i]) {
					seen++
				}
			}
			if seen != 2 {
				t.Error(facets, c, seen)
			}
		}
	}
}

// A facet shows just if two corners lie on it; of those that do not, each has one
// at most.
func TestShowsHaveTwoCorners(t *testing.T) {
	var d dice
	for _, facets := range d.shapes() {
		shows, corners := impl.Shows(facets), impl.Corners(facets)
		if !slices.IsSorted(shows) || len(slices.Compact(slices.Clone(shows))) != len(shows) {
			t.Error(facets, shows)
		}
		for i, f := range facets {
			on := 0
			for _, c := range corners {
				if isOn(c, f) {
					on++
				}
			}
			if shown := slices.Contains(shows, int64(i)); shown && on != 2 || !shown && on > 1 {
				t.Error(facets, i, on)
			}
		}
	}
}

// cornerPlace is the point that a corner tells.
func cornerPlace(c impl.Corner) place { return place{big.NewRat(c.X, c.D), big.NewRat(c.Y, c.D)} }

// turn is above 0 just if one who goes from a over b to c turns to the left.
func turn(a, b, c place) int {
	x1, y1 := new(big.Rat).Sub(b.x, a.x), new(big.Rat).Sub(b.y, a.y)
	x2, y2 := new(big.Rat).Sub(c.x, b.x), new(big.Rat).Sub(c.y, b.y)
	return x1.Mul(x1, y2).Cmp(y1.Mul(y1, x2))
}

// At every corner one turns to the left, once around in all, and the first one
// has the least x, of two the least y.
func TestCornersGoAround(t *testing.T) {
	var d dice
	for _, facets := range d.shapes() {
		places := []place{}
		for _, c := range impl.Corners(facets) {
			places = append(places, cornerPlace(c))
		}
		rises := 0
		for i, p := range places {
			next, behind := places[(i+1)%len(places)], places[(i+2)%len(places)]
			if turn(p, next, behind) <= 0 || i > 0 && comparePlaces(places[0], p) >= 0 {
				t.Error(facets, i)
			}
			if comparePlaces(p, next) < 0 && comparePlaces(next, behind) > 0 {
				rises++
			}
		}
		if rises != 1 {
			t.Error(facets, rises)
		}
	}
}

func TestSupportByHand(t *testing.T) {
	bent := shape{facet(2, 1, 3), facet(-1, 1, 2), facet(-1, -3, 5)}
	for _, c := range []struct {
		facets   shape
		x, y     int64
		num, den int64
	}{
		{square(3), 0, 0, 0, 1}, {square(3), 1, 0, 3, 1}, {square(3), 0, 1, 3, 1}, {square(3), -1, 0, 3, 1}, {square(3), 0, -1, 3, 1},
		{square(3), 1, 1, 6, 1}, {square(3), -2, 5, 21, 1}, {square(3), 50, 50, 300, 1}, {square(3), -50, -50, 300, 1}, {square(3), 50, -50, 300, 1}, {square(3), 0, 50, 150, 1},
		{square(1000), 50, -50, 100000, 1}, {with(square(3), facet(1, 1, 5)), 1, 1, 5, 1}, {with(square(3), facet(1, 1, 5)), 2, 1, 8, 1}, {with(square(3), facet(1, 1, 5)), 1, 2, 8, 1},
		{with(square(3), facet(1, 1, 9)), 1, 1, 6, 1}, {with(square(3), facet(1, 1, 5)), -1, -1, 6, 1},
		{bent, 0, 0, 0, 1}, {bent, 1, 0, 14, 5}, {bent, 0, 1, 7, 3}, {bent, -1, 0, 11, 4}, {bent, 0, -1, 13, 5}, {bent, -1, -1, 7, 2}, {bent, 1, 1, 8, 3},
		{bent, 2, 1, 3, 1}, {bent, -1, 1, 2, 1}, {bent, -1, -3, 5, 1}, {bent, 3, 3, 8, 1}, {bent, 4, 0, 56, 5}, {bent, 5, 0, 14, 1}, {bent, 1, -1, 27, 5}, {bent, 50, -50, 270, 1},
		{shape{facet(50, 49, 1), facet(49, 48, 1000), facet(-49, -48, 1000), facet(-50, -49, 1)}, 50, -50, 50 * (49048 + 50049), 1},
	} {
		if num, den := impl.Support(c.facets, c.x, c.y); num != c.num || den != c.den {
			t.Error(c, num, den)
		}
	}
}

// directions: all of small numbers, the facets' own normals, between any two of
// them, and the greatest ones.
func directions(facets shape) [][2]int64 {
	out := [][2]int64{{normalMost, normalMost}, {-normalMost, normalMost}, {normalMost, -1}, {0, -normalMost}}
	for x := int64(-3); x <= 3; x++ {
		for y := int64(-3); y <= 3; y++ {
			out = append(out, [2]int64{x, y})
		}
	}
	for i, f := range facets {
		out = append(out, [2]int64{f.NX, f.NY})
		next := facets[(i+1)%len(facets)]
		if x, y := f.NX+next.NX, f.NY+next.NY; max(x, y) <= normalMost && min(x, y) >= -normalMost {
			out = append(out, [2]int64{x, y})
		}
	}
	return out
}

// P15: Support is told at a corner, and none has more.
func TestSupportIsToldAtACorner(t *testing.T) {
	var d dice
	for _, facets := range d.shapes() {
		corners := impl.Corners(facets)
		for _, n := range directions(facets) {
			num, den := impl.Support(facets, n[0], n[1])
			if den < 1 || num < 0 || gcd(num, den) != 1 {
				t.Fatal(facets, n, num, den)
			}
			told, at := big.NewRat(num, den), 0
			for _, c := range corners {
				switch cornerPlace(c).reach(n[0], n[1]).Cmp(told) {
				case 0:
					at++
				case 1:
					t.Fatal(facets, n, num, den, c)
				}
			}
			if at == 0 || at > 2 && n != [2]int64{} {
				t.Fatal(facets, n, num, den)
			}
		}
	}
}

func checkSupport(t *testing.T, facets shape, x, y int64) {
	t.Helper()
	num, den := supportByRule(facets, x, y)
	if n, d := impl.Support(facets, x, y); n != num || d != den {
		t.Error(facets, x, y, n, d, num, den)
	}
}

func TestSupportByRule(t *testing.T) {
	var d dice
	for _, facets := range handShapes() {
		for _, n := range directions(facets) {
			checkSupport(t, facets, n[0], n[1])
		}
	}
	for range 60 {
		facets := d.roundShape(int(d.between(3, 12)), normalMost)
		for range 5 {
			checkSupport(t, facets, d.between(-normalMost, normalMost), d.between(-normalMost, normalMost))
		}
	}
}

// Along its own normal a facet that shows has just its G, and one that does not
// has the same or more.
func TestSupportAlongFacets(t *testing.T) {
	var d dice
	for _, facets := range d.shapes() {
		shows := impl.Shows(facets)
		for i, f := range facets {
			num, den := impl.Support(facets, f.NX, f.NY)
			if num > f.G*den || slices.Contains(shows, int64(i)) && (num != f.G || den != 1) {
				t.Error(facets, i, num, den)
			}
		}
	}
}

// Support of a sum is at most the sum, of a multiple the multiple.
func TestSupportOfSums(t *testing.T) {
	var d dice
	for range 300 {
		facets := d.drawnShape(int(d.between(3, 9)), 9)
		a, b := [2]int64{d.between(-12, 12), d.between(-12, 12)}, [2]int64{d.between(-12, 12), d.between(-12, 12)}
		support := func(x, y int64) *big.Rat {
			num, den := impl.Support(facets, x, y)
			if den < 1 {
				t.Fatal(facets, x, y, num, den)
			}
			return big.NewRat(num, den)
		}
		sum := new(big.Rat).Add(support(a[0], a[1]), support(b[0], b[1]))
		if support(a[0]+b[0], a[1]+b[1]).Cmp(sum) > 0 {
			t.Error(facets, a, b)
		}
		thrice := new(big.Rat).Mul(support(a[0], a[1]), big.NewRat(3, 1))
		if support(3*a[0], 3*a[1]).Cmp(thrice) != 0 {
			t.Error(facets, a)
		}
	}
}

func TestSupportOutOfRange(t *testing.T) {
	for _, n := range []int64{normalMost + 1, -normalMost - 1, 1000, 1 << 32, -1 << 32, math.MaxInt64, math.MinInt64, math.MinInt64 + 1} {
		for _, other := range []int64{0, 1, -1, normalMost, -normalMost, n} {
			for _, facets := range handShapes() {
				a, b := impl.Support(facets, n, other)
				c, d := impl.Support(facets, other, n)
				if a != 0 || b != 0 || c != 0 || d != 0 {
					t.Error(facets, n, other, a, b, c, d)
				}
			}
		}
	}
	for _, x := range []int64{-normalMost, 0, normalMost} {
		for _, y := range []int64{-normalMost, 0, normalMost} {
			if num, den := impl.Support(square(2), x, y); num != 2*max(x, -x)+2*max(y, -y) || den != 1 {
				t.Error(x, y, num, den)
			}
		}
	}
}

func TestReasonByHand(t *testing.T) {
	far := shape{facet(1, 1, 1000), facet(1, 2, 1000), facet(2, 1, 1000)}
	side := with(square(3), facet(1, 1, 3), facet(1, -1, 3))
	for _, c := range []struct {
		facets  shape
		i, j, k int64
	}{
		{square(3), 0, -1, -1}, {square(3), 3, -1, -1}, {handShapes()[0], 1, -1, -1},
		{with(square(3), facet(1, 1, 5)), 4, -1, -1}, {with(square(3), facet(1, 1, 5)), 0, -1, -1},
		{with(square(3), facet(1, 1, 6)), 4, 0, 1}, {with(square(3), facet(-1, 1, 6)), 4, 1, 2}, {with(square(3), facet(-1, -1, 6)), 4, 2, 3}, {with(square(3), facet(1, -1, 6)), 4, 0, 3},
		{with(square(3), facet(1, 1, 7)), 4, 0, 1}, {with(square(3), facet(1, 1, 1000)), 4, 0, 1}, {with(square(3), facet(1, 1, 6)), 0, -1, -1},
		{with(shape{facet(1, 1, 6)}, square(3)...), 0, 1, 2}, {slices.Insert(square(3), 1, facet(1, 1, 6)), 1, 0, 2}, {slices.Insert(square(3), 1, facet(-1, 1, 6)), 1, 2, 3},
		// several pairs: the first by j, then k
		{with(square(3), far...), 4, 0, 1}, {with(square(3), far...), 5, 0, 1}, {with(square(3), far...), 6, 0, 1},
		{with(far, square(3)...), 0, 1, 2}, {with(far, square(3)...), 1, 2, 4}, {with(far, square(3)...), 2, 1, 3},
		{with(square(3), facet(1, 1, 5), facet(2, 1, 8), facet(3, 2, 13)), 5, 0, 4}, {with(square(3), facet(1, 1, 5), facet(2, 1, 8), facet(3, 2, 13)), 6, 0, 4}, {with(square(3), facet(1, 1, 5), facet(2, 1, 8), facet(3, 2, 13)), 4, -1, -1},
		// a side of which a point is left, kept by those that cut it
		{side, 0, 4, 5}, {with(square(3), facet(1, 1, 2), facet(1, -1, 3)), 0, 4, 5}, {with(square(3), facet(1, 1, 4), facet(1, -1, 3)), 0, -1, -1},
		// no facet i
		{side, -1, -1, -1}, {side, 6, -1, -1}, {side, 7, -1, -1}, {side, math.MaxInt64, -1, -1}, {side, math.MinInt64, -1, -1}, {side, 1 << 32, -1, -1}, {side, -6, -1, -1},
		{with(square(3), facet(1, 1, 6)), 5, -1, -1}, {with(square(3), facet(1, 1, 6)), 1<<32 + 4, -1, -1},
	} {
		if j, k := impl.Reason(c.facets, c.i); j != c.j || k != c.k {
			t.Error(c, j, k)
		}
	}
}

// P15: a facet for which Reason tells a pair does not show; and one for which it
// tells none does.
func TestReasonTellsWhatDoesNotShow(t *testing.T) {
	var d dice
	hidden := 0
	for _, facets := range d.shapes() {
		shows := impl.Shows(facets)
		for i := range int64(len(facets)) {
			j, k := impl.Reason(facets, i)
			shown := slices.Contains(shows, i)
			if shown != (j == -1) || shown != (k == -1) {
				t.Error(facets, i, j, k)
			}
			if shown {
				continue
			}
			hidden++
			if j < 0 || j >= k || k >= int64(len(facets)) || j == i || k == i || !coveredByRule(facets, i, j, k) {
				t.Error(facets, i, j, k)
			}
		}
	}
	if hidden < 300 {
		t.Error("too few do not show:", hidden)
	}
}

func checkReason(t *testing.T, facets shape, i int64) {
	t.Helper()
	first, second := reasonByRule(facets, i)
	if j, k := impl.Reason(facets, i); j != first || k != second {
		t.Error(facets, i, j, k, first, second)
	}
}

// The first pair by j, then k, of all pairs that Covered and the rule tell.
func TestReasonByRule(t *testing.T) {
	var d dice
	for _, facets := range d.shapes() {
		if len(facets) > 16 {
			continue
		}
		count := int64(len(facets))
		for i := int64(-1); i <= count; i++ {
			checkReason(t, facets, i)
			first, second := int64(-1), int64(-1)
			for j := count - 1; j >= 0; j-- {
				for k := count - 1; k > j; k-- {
					if impl.Covered(facets, i, j, k) {
						first, second = j, k
					}
				}
			}
			if j, k := impl.Reason(facets, i); j != first || k != second {
				t.Error(facets, i, j, k, first, second)
			}
		}
	}
}

func TestCoveredByHand(t *testing.T) {
	for _, c := range []struct {
		i, j, k impl.Facet
		want    bool
	}{
		{facet(1, 1, 6), facet(1, 0, 3), facet(0, 1, 3), true}, {facet(1, 1, 5), facet(1, 0, 3), facet(0, 1, 3), false}, {facet(1, 1, 7), facet(1, 0, 3), facet(0, 1, 3), true},
		{facet(1, 2, 9), facet(1, 0, 3), facet(0, 1, 3), true}, {facet(1, 2, 8), facet(1, 0, 3), facet(0, 1, 3), false}, {facet(1, 2, 10), facet(1, 0, 3), facet(0, 1, 3), true},
		{facet(-1, -2, 9), facet(-1, 0, 3), facet(0, -1, 3), true}, {facet(-1, -2, 8), facet(-1, 0, 3), facet(0, -1, 3), false},
		// p and q are fractions: two thirds, one third
		{facet(1, 1, 3), facet(2, 1, 4), facet(1, 2, 5), true}, {facet(1, 1, 3), facet(2, 1, 5), facet(1, 2, 5), false}, {facet(1, 1, 4), facet(2, 1, 5), facet(1, 2, 5), true},
		{facet(1, 1, 3), facet(2, 1, 5), facet(1, 2, 4), true}, {facet(1, 1, 3), facet(2, 1, 4), facet(1, 2, 4), true}, {facet(1, 1, 2), facet(2, 1, 4), facet(1, 2, 4), false},
		{facet(1, 0, 1), facet(1, 1, 1), facet(1, -1, 1), true}, {facet(1, 0, 1), facet(1, 1, 2), facet(1, -1, 1), false}, {facet(1, 0, 2), facet(1, 1, 2), facet(1, -1, 1), true},
		// p or q just 0: the normal is that of one of the two
		{facet(1, 0, 3), facet(1, 0, 3), facet(0, 1, 9), true}, {facet(1, 0, 2), facet(1, 0, 3), facet(0, 1, 9), false}, {facet(1, 0, 4), facet(1, 0, 3), facet(0, 1, 9), true},
		{facet(1, 0, 3), facet(0, 1, 9), facet(1, 0, 3), true}, {facet(1, 0, 2), facet(0, 1, 9), facet(1, 0, 3), false}, {facet(1, 0, 4), facet(0, 1, 9), facet(1, 0, 3), true},
		{facet(-3, 7, 5), facet(-3, 7, 5), facet(50, 49, 1000), true}, {facet(-3, 7, 4), facet(50, 49, 1), facet(-3, 7, 5), false},
		// p or q below 0, though the sum of the Gs is small
		{facet(1, 0, 1000), facet(1, 1, 1), facet(0, 1, 1), false}, {facet(1, 0, 1000), facet(0, 1, 1), facet(1, 1, 1), false}, {facet(-1, 0, 1000), facet(1, 0, 1), facet(0, 1, 1), false},
		{facet(-1, -1, 1000), facet(1, 0, 1), facet(0, 1, 1), false}, {facet(1, -1, 1000), facet(1, 0, 1), facet(0, 1, 1), false}, {facet(0, -1, 1000), facet(1, 0, 1), facet(0, 1, 1), false},
		{facet(50, 49, 1000), facet(49, 48, 1), facet(48, 47, 1), false}, {facet(49, 48, 1000), facet(50, 49, 1), facet(48, 47, 1), true},
		// normals of j and k on one line: alike and opposite
		{facet(1, 0, 1000), facet(1, 0, 1), facet(-1, 0, 1), false}, {facet(0, 1, 1000), facet(1, 0, 1), facet(-1, 0, 1), false}, {facet(1, 0, 1000), facet(1, 0, 1), facet(1, 0, 1), false},
		{facet(1, 0, 1000), facet(1, 0, 1), facet(1, 0, 2), false}, {facet(3, 7, 1000), facet(3, 7, 1), facet(-3, -7, 1), false}, {facet(7, -3, 1000), facet(3, 7, 1), facet(-3, -7, 1), false},
		// great numbers
		{facet(1, 0, 1000), facet(50, 49, 1000), facet(50, -49, 1000), true}, {facet(1, 0, 20), facet(50, 49, 1000), facet(50, -49, 1000), true}, {facet(1, 0, 19), facet(50, 49, 1000), facet(50, -49, 1000), false},
		{facet(50, 49, 990), facet(1, 0, 10), facet(0, 1, 10), true}, {facet(50, 49, 989), facet(1, 0, 10), facet(0, 1, 10), false}, {facet(-50, 49, 991), facet(-1, 0, 10), facet(0, 1, 10), true},
	} {
		list := shape{c.i, c.j, c.k}
		if impl.Covered(list, 0, 1, 2) != c.want || impl.Covered(list, 0, 2, 1) != c.want || impl.Covered(reversed(list), 2, 1, 0) != c.want {
			t.Error(c)
		}
	}
}

func checkCovered(t *testing.T, facets shape, i, j, k int64) bool {
	t.Helper()
	want := coveredByRule(facets, i, j, k)
	if got := impl.Covered(facets, i, j, k); got != want || impl.Covered(facets, i, k, j) != want {
		t.Error(facets, i, j, k, got)
	}
	return want
}

// All triples, of shapes and of facets that are none together.
func TestCoveredByRule(t *testing.T) {
	var d dice
	covered := 0
	for _, facets := range append(d.shapes(), unbounded()...) {
		if len(facets) > 16 {
			continue
		}
		count := int64(len(facets))
		for i := int64(-1); i <= count; i++ {
			for j := int64(-1); j <= count; j++ {
				for k := int64(-1); k <= count; k++ {
					if checkCovered(t, facets, i, j, k) {
						covered++
					}
				}
			}
		}
	}
	if covered < 1000 {
		t.Error("too few are covered:", covered)
	}
}

// The sum of both G against G, by one below, the same, and by one above.
func TestCoveredAtJustG(t *testing.T) {
	var d dice
	for range 3000 {
		a, b := d.normal(7), d.normal(7)
		p, q := d.between(0, 4), d.between(0, 4)
		x, y := p*a[0]+q*b[0], p*a[1]+q*b[1]
		if a[0]*b[1] == a[1]*b[0] || gcd(x, y) != 1 || p+q == 0 {
			continue
		}
		one, other := facet(a[0], a[1], d.between(1, 100)), facet(b[0], b[1], d.between(1, 100))
		sum := p*one.G + q*other.G
		for by := int64(-1); by <= 1; by++ {
			list := shape{one, facet(x, y, sum+by), other}
			if sum+by > 0 && (impl.Covered(list, 1, 0, 2) != (by >= 0) || impl.Covered(list, 1, 2, 0) != (by >= 0)) {
				t.Error(list, by)
			}
		}
	}
}

// Places that are none, and two that are the same.
func TestCoveredWithoutThree(t *testing.T) {
	facets := with(square(3), facet(1, 1, 6))
	if !impl.Covered(facets, 4, 0, 1) || !impl.Covered(facets, 4, 1, 0) {
		t.Error(facets)
	}
	for _, wrong := range []int64{-1, -2, -5, 5, 6, 40, 1 << 32, 1<<32 + 4, 1 << 62, math.MaxInt64, math.MinInt64, math.MinInt64 + 1} {
		for _, c := range [][3]int64{{wrong, 0, 1}, {4, wrong, 1}, {4, 0, wrong}, {wrong, wrong, 1}, {4, wrong, wrong}, {wrong, 0, wrong}, {wrong, wrong, wrong}} {
			if impl.Covered(facets, c[0], c[1], c[2]) {
				t.Error(c)
			}
		}
	}
	// each of these would be covered, were the same facet taken twice
	for _, c := range [][3]int64{{0, 0, 1}, {0, 1, 0}, {4, 4, 1}, {4, 1, 4}, {4, 0, 0}, {4, 4, 4}, {0, 0, 0}} {
		if impl.Covered(facets, c[0], c[1], c[2]) {
			t.Error(c)
		}
	}
}

// Covered asks for no shape: few facets, unbounded ones, two with one normal; but
// for each of the three to be a facet, and for no more of them than MaxFacets.
func TestCoveredAsksForNoShape(t *testing.T) {
	three := shape{facet(1, 1, 6), facet(1, 0, 3), facet(0, 1, 3)}
	if !impl.Covered(three, 0, 1, 2) || impl.ShapeOk(three) {
		t.Error(three)
	}
	if twice := with(three, three...); !impl.Covered(twice, 3, 1, 2) || !impl.Covered(twice, 0, 4, 2) || impl.Covered(twice, 0, 1, 4) || !impl.Covered(twice, 1, 4, 2) {
		t.Error(twice)
	}
	for _, wrong := range wrongFacets() {
		if list := with(three, wrong); !impl.Covered(list, 0, 1, 2) {
			t.Error(list)
		}
		for at := range three {
			list := slices.Clone(three)
			list[at] = wrong
			if impl.Covered(list, 0, 1, 2) || impl.Covered(list, 0, 2, 1) {
				t.Error(list)
			}
		}
	}
	for count, want := range map[int]bool{3: true, 4: true, facetsMost - 1: true, facetsMost: true, facetsMost + 1: false, facetsMost + 2: false, 5000: false} {
		list := with(three, slices.Repeat(square(1)[:1], count-3)...)
		if impl.Covered(list, 0, 1, 2) != want || impl.Covered(reversed(list), int64(count-1), int64(count-2), int64(count-3)) != want {
			t.Error(count)
		}
	}
}

func TestShapeLimitsAreMet(t *testing.T) {
	many := manySided(someNormals(facetsMost))
	for _, facets := range []shape{
		many, many[:facetsMost-1], reversed(many), square(1), square(energyMost), handShapes()[0],
		{facet(50, 49, 1), facet(-50, 49, 1), facet(1, -50, 1)}, {facet(50, -49, 1000), facet(-50, -49, 1000), facet(-1, 50, 1)},
		{facet(49, 50, 1), facet(-49, 50, 1000), facet(0, -1, 500)}, {facet(-49, -50, 999), facet(49, -50, 2), facet(0, 1, 1000)},
		{facet(1, 0, 1), facet(-50, 1, 1), facet(-50, -1, 1)}, {facet(-1, 0, 1000), facet(50, 1, 1), facet(50, -1, 1)},
	} {
		if !impl.ShapeOk(facets) || !isShapeByRule(facets) || len(impl.Corners(facets)) != len(facets) {
			t.Error(facets)
		}
	}
	for _, more := range []shape{{facet(50, 49, 1000)}, {facet(50, 49, 1000), facet(49, 50, 1000)}, many} {
		if facets := with(many, more...); impl.ShapeOk(facets) {
			t.Error(len(facets))
		}
	}
}

func checkNoShape(t *testing.T, facets shape) {
	t.Helper()
	if impl.ShapeOk(facets) || isShapeByRule(facets) {
		t.Error(facets)
	}
	if got := impl.Shows(facets); len(got) != 0 {
		t.Error(facets, got)
	}
	if got := impl.Corners(facets); len(got) != 0 {
		t.Error(facets, got)
	}
	for _, i := range []int64{-1, 0, 1, 2, 3, 4, int64(len(facets)) - 1, int64(len(facets)), math.MaxInt64, math.MinInt64} {
		if j, k := impl.Reason(facets, i); j != -1 || k != -1 {
			t.Error(facets, i, j, k)
		}
		for _, j := range []int64{0, 2, int64(len(facets)) - 1} {
			checkCovered(t, facets, i, j, 1)
		}
	}
	for _, n := range [][2]int64{{0, 0}, {1, 0}, {-3, 7}, {50, 50}, {51, 0}, {math.MinInt64, math.MaxInt64}} {
		if num, den := impl.Support(facets, n[0], n[1]); num != 0 || den != 0 {
			t.Error(facets, n, num, den)
		}
	}
}

func TestNoShapes(t *testing.T) {
	for _, facets := range noShapes() {
		checkNoShape(t, facets)
	}
}

// A shape of which facets are taken is one as long as what is left is bounded.
func TestShapesWithFacetsTaken(t *testing.T) {
	bounded, free := 0, 0
	for most := int64(1); most <= 3; most++ {
		around := normals(most)
		for from := range around {
			for count := 1; count < len(around); count++ {
				facets := shape{}
				for i := range count {
					n := around[(from+i)%len(around)]
					facets = append(facets, facet(n[0], n[1], int64(1+i)))
				}
				switch want := isShapeByRule(facets); {
				case impl.ShapeOk(facets) != want:
					t.Error(facets)
				case want:
					bounded++
				default:
					free++
				}
			}
		}
	}
	if min(bounded, free) < 300 {
		t.Error(bounded, free)
	}
}

// The order of the facets changes no corner, and no facet's showing.
func TestOrderOfFacets(t *testing.T) {
	var d dice
	for _, facets := range d.shapes() {
		shown := shape{}
		for _, i := range impl.Shows(facets) {
			shown = append(shown, facets[i])
		}
		for _, other := range []shape{reversed(facets), d.shuffled(facets), slices.Concat(facets[1:], facets[:1])} {
			if got := impl.Corners(other); !slices.Equal(got, impl.Corners(facets)) {
				t.Error(facets, got)
			}
			got := impl.Shows(other)
			if len(got) != len(shown) || slices.ContainsFunc(got, func(i int64) bool { return !slices.Contains(shown, other[i]) }) {
				t.Error(facets, got)
			}
		}
	}
}

// What does not show may be left out: the shape stays. What shows may not.
func TestFacetsLeftOut(t *testing.T) {
	var d dice
	for _, facets := range d.shapes() {
		shows, corners := impl.Shows(facets), impl.Corners(facets)
		bare := shape{}
		for _, i := range shows {
			bare = append(bare, facets[i])
			rest := slices.Delete(slices.Clone(facets), int(i), int(i)+1)
			if slices.Equal(impl.Corners(rest), corners) {
				t.Error(facets, i)
			}
		}
		if !slices.Equal(impl.Corners(bare), corners) || len(impl.Shows(bare)) != len(bare) {
			t.Error(facets, bare)
		}
	}
}

// Turned by a quarter and seen in a mirror a shape has the same facets that show,
// and the same reasons.
func TestTurnedShapes(t *testing.T) {
	var d dice
	for _, facets := range d.shapes() {
		turned, mirrored := shape{}, shape{}
		for _, f := range facets {
			turned = append(turned, facet(-f.NY, f.NX, f.G))
			mirrored = append(mirrored, facet(f.NY, f.NX, f.G))
		}
		corners := impl.Corners(facets)
		for _, other := range []shape{turned, mirrored} {
			if !impl.ShapeOk(other) || !slices.Equal(impl.Shows(other), impl.Shows(facets)) || len(impl.Corners(other)) != len(corners) {
				t.Error(facets)
			}
			for i := range int64(len(facets)) {
				j, k := impl.Reason(facets, i)
				if j2, k2 := impl.Reason(other, i); j2 != j || k2 != k {
					t.Error(facets, i, j2, k2)
				}
			}
		}
		for _, c := range corners {
			if !slices.Contains(impl.Corners(turned), corner(-c.Y, c.X, c.D)) || !slices.Contains(impl.Corners(mirrored), corner(c.Y, c.X, c.D)) {
				t.Error(facets, c)
			}
		}
	}
}

// Grown by a whole number a shape has its corners that much farther out.
func TestGrownShapes(t *testing.T) {
	var d dice
	for range 100 {
		facets := d.bundledShape(int(d.between(3, 12)), 9)
		by := d.between(2, 9)
		grown := slices.Clone(facets)
		for i := range grown {
			grown[i].G *= by
		}
		want := []impl.Corner{}
		for _, c := range impl.Corners(facets) {
			want = append(want, cornerOf(place{big.NewRat(c.X*by, c.D), big.NewRat(c.Y*by, c.D)}))
		}
		if got := impl.Corners(grown); !slices.Equal(got, want) || !slices.Equal(impl.Shows(grown), impl.Shows(facets)) {
			t.Error(facets, by, got)
		}
	}
}

func TestShapeArgumentsStay(t *testing.T) {
	var d dice
	for _, facets := range append(d.shapes(), noShapes()...) {
		count := len(facets)
		room := with(facets, facet(1, 0, 1), facet(7, 7, -7))
		want := slices.Clone(room)
		list := room[:count]
		impl.ShapeOk(list)
		shows, corners := impl.Shows(list), impl.Corners(list)
		impl.Reason(list, int64(count)-1)
		impl.Covered(list, 0, 1, 2)
		impl.Support(list, 3, -2)
		spoilNumbers(shows)
		for i := range corners[:cap(corners)] {
			corners[:cap(corners)][i] = corner(-9, -9, -9)
		}
		if !slices.Equal(room, want) {
			t.Error(facets)
		}
	}
}

// What lies behind a list's length is not of it.
func TestShapesLeaveOutWhatLiesBehind(t *testing.T) {
	room := with(square(3), facet(1, 1, 1), facet(0, 0, 0), facet(-1, 0, math.MinInt64))
	list := room[:4]
	if !impl.ShapeOk(list) || !slices.Equal(impl.Corners(list), impl.Corners(square(3))) || len(impl.Shows(list)) != 4 {
		t.Error(list)
	}
	if num, den := impl.Support(list, 1, 1); num != 6 || den != 1 {
		t.Error(num, den)
	}
	if impl.Covered(room[:2], 0, 1, 2) || impl.ShapeOk(room[:3]) || impl.ShapeOk(make(shape, 0, 9)) {
		t.Error("room is no facet")
	}
	if list := with(square(3), facet(1, 1, 6), facet(2, 1, 100)); impl.Covered(list[:4], 4, 0, 1) || !impl.Covered(list[:5], 4, 0, 1) {
		t.Error("room is no facet")
	}
	if j, k := impl.Reason(with(square(3), facet(1, 1, 6))[:4], 4); j != -1 || k != -1 {
		t.Error(j, k)
	}
}

func TestShapeAnswersAreNewMemory(t *testing.T) {
	for _, facets := range handShapes() {
		checkNewList(t, "Shows", func() []int64 { return impl.Shows(facets) })
		checkNewList(t, "Corners", func() []impl.Corner { return impl.Corners(facets) })
	}
}

// Every call answers the same, one behind the other and all at once.
func TestShapesAnswerTheSame(t *testing.T) {
	var all sync.WaitGroup
	for start := range 8 {
		all.Go(func() {
			d := dice(start)
			facets := d.bundledShape(14, 12)
			shows, corners := showsByRule(facets), cornersByRule(facets)
			num, den := supportByRule(facets, 3, -7)
			first, second := reasonByRule(facets, 5)
			for range 20 {
				if !slices.Equal(impl.Shows(facets), shows) || !slices.Equal(impl.Corners(facets), corners) {
					t.Error(start, facets)
				}
				if n, d := impl.Support(facets, 3, -7); n != num || d != den {
					t.Error(start, n, d)
				}
				if j, k := impl.Reason(facets, 5); j != first || k != second {
					t.Error(start, j, k)
				}
			}
		})
	}
	all.Wait()
}

// wildFacets: likely a shape, or one of its numbers is any, or it has too few or
// too many facets.
func (d *dice) wildFacets() shape {
	out := d.bundledShape(int(d.between(3, 8)), []int64{3, 9, normalMost}[d.between(0, 2)])
	at := &out[d.between(0, int64(len(out)-1))]
	switch d.between(0, 11) {
	case 0:
		at.NX = d.wildNumber()
	case 1:
		at.NY = d.wildNumber()
	case 2:
		at.G = d.wildNumber()
	case 3:
		*at = facet(d.wildNumber(), d.wildNumber(), d.wildNumber())
	case 4:
		out = out[:d.between(0, int64(len(out)))]
	case 5:
		out = slices.Repeat(out, int(d.between(1, 12)))
	case 6:
		*at = out[0]
	}
	return out
}

func (d *dice) wildPlace(facets shape) int64 {
	if d.between(0, 7) == 0 {
		return d.wildNumber()
	}
	return d.between(-1, int64(len(facets)))
}

func TestShapesAnswerAtEveryArgument(t *testing.T) {
	var d dice
	right, wrong := 0, 0
	for range 1500 {
		facets := d.wildFacets()
		ok := isShapeByRule(facets)
		if impl.ShapeOk(facets) != ok {
			t.Fatal(facets)
		}
		if got := impl.Shows(facets); !slices.Equal(got, showsByRule(facets)) {
			t.Fatal(facets, got)
		}
		if got := impl.Corners(facets); !slices.Equal(got, cornersByRule(facets)) {
			t.Fatal(facets, got)
		}
		i := d.wildPlace(facets)
		checkReason(t, facets, i)
		for range 10 {
			checkCovered(t, facets, d.wildPlace(facets), d.wildPlace(facets), d.wildPlace(facets))
		}
		x, y := d.between(-normalMost, normalMost), d.between(-normalMost, normalMost)
		checkSupport(t, facets, x, y)
		checkSupport(t, facets, d.wildNumber(), y)
		if ok {
			right++
		} else {
			wrong++
		}
	}
	if min(right, wrong) < 300 {
		t.Error("too few of a kind:", right, wrong)
	}
}
