package tests

import (
	"math"
	"slices"
	"sync"
	"testing"

	"loop.example/g00055/impl"
)

func TestIndexLimits(t *testing.T) {
	got := []int64{impl.MaxSpotAt, impl.MaxSpots, impl.MaxReflections, impl.MaxExposures}
	if !slices.Equal(got, []int64{spotAtMost, spotsMost, reflectionsMost, exposuresMost}) {
		t.Error(got)
	}
}

func TestIndexedByHand(t *testing.T) {
	for _, c := range []struct {
		spots []impl.Spot
		b     impl.Basis
		want  int64
	}{
		{nil, basisOf(1, 0, 0, 1), 0},
		{spotsAt(0, 0), basisOf(1, 0, 0, 1), 1},
		{spotsAt(1000, 1000), basisOf(1000, -1000, 1000, 1000), 1},
		{handSpots(), basisOf(4, 0, 0, 5), 4},
		{handSpots(), basisOf(0, 5, -4, 0), 4},
		{handSpots(), basisOf(-4, 0, 0, -5), 4},
		{handSpots(), basisOf(8, 0, 0, 5), 3},
		{handSpots(), basisOf(4, 0, 4, 5), 4},
		{handSpots(), basisOf(8, 5, 4, 5), 4},
		{handSpots(), basisOf(1, 1, 0, 5), 3},
		{handSpots(), basisOf(1, 0, 0, 1), 5},
		{spotsAt(11, 11, 10, 10, 14, 10, 10, 15), basisOf(4, 0, 0, 5), 1},
		{spotsAt(11, 11, 10, 10, 15, 11, 10, 15), basisOf(4, 0, 0, 5), 2},
		{spotsAt(5, 5, 1, 0, 9, 10, 3, 2), basisOf(4, 5, -4, 5), 3},
		{spotsAt(7, 7, 7, 7, 8, 7, 7, 9, 7, 9), basisOf(2, 0, 0, 2), 4},
		{spotsAt(3, 999, 17, 4, 1000, 0, 0, 1), basisOf(3, 2, 1, 1), 4},
		{spotsAt(3, 999, 17, 4, 1000, 0, 0, 1), basisOf(999, 998, 1000, 999), 4},
		{spotsAt(0, 0, 1, 1, 2, 0, 1, 0, 3, 5), basisOf(2, 0, 1, 1), 4},
		{spotsAt(0, 0, 1000, 1000, 1000, 0, 0, 1000, 500, 500), basisOf(1000, -1000, 1000, 1000), 2},
		{spotsAt(0, 0, 1000, 1000, 1000, 0, 0, 1000, 500, 500), basisOf(1000, 0, 0, 1000), 4},
		{spotsAt(1000, 1000, 0, 0, 1000, 0, 0, 1000, 500, 500), basisOf(500, 500, -500, 500), 5},
	} {
		if got := impl.Indexed(c.spots, c.b); got != c.want || indexedByRule(c.spots, c.b) != c.want {
			t.Error(c, got, indexedByRule(c.spots, c.b))
		}
	}
}

// What the tests hold Indexed against is held against a search and against the
// lattices of chapter 2.
func TestSumsByRule(t *testing.T) {
	var d dice
	sums, others := 0, 0
	for range 2000 {
		b := d.basis([]int64{2, 5, 30, spotAtMost}[d.between(0, 3)])
		x, y := d.between(-60, 60), d.between(-60, 60)
		if d.between(0, 1) == 0 {
			i, j := d.between(-3, 3), d.between(-3, 3)
			x, y = i*b.AX+j*b.BX, i*b.AY+j*b.BY
		}
		got := isSumOf(triangleByRule(b), x, y)
		lattice := []int64{b.AX, b.AY, 0, b.BX, b.BY, 0, 0, 0, 1}
		if got != isSumBySearch(b, x, y) || got != impl.Contains(lattice, x, y, 0) {
			t.Error(b, x, y, got)
		}
		if got {
			sums++
		} else {
			others++
		}
	}
	if min(sums, others) < 300 {
		t.Error("too few of a kind:", sums, others)
	}
}

func checkIndexed(t *testing.T, spots []impl.Spot, b impl.Basis) int64 {
	t.Helper()
	got := impl.Indexed(spots, b)
	if got != indexedByRule(spots, b) {
		t.Error(spots, b, got, indexedByRule(spots, b))
	}
	return got
}

func TestIndexedByRule(t *testing.T) {
	var d dice
	some := 0
	for range 30 {
		for _, spots := range d.spotLists(1, 2, 3, 5, 8, 12, spotsMost) {
			for _, most := range []int64{1, 2, 6, 40, spotAtMost} {
				got := checkIndexed(t, spots, d.basis(most))
				if got > 1 && got < int64(len(spots)) {
					some++
				}
			}
		}
	}
	if some < 1000 {
		t.Error("too few with a part of the spots:", some)
	}
}

// All vectors of small numbers, at all places of a small square.
func TestIndexedOfSmallBases(t *testing.T) {
	places := smallSurfaces(2, 4)
	for _, n := range smallSurfaces(4, 6) {
		b := basisOf(n[0]-3, n[1]-3, n[2]-3, n[3]-3)
		for _, first := range [][]int64{{0, 0}, {4, 1}, {2, 2}} {
			spots := spotsAt(first...)
			for _, place := range places[:12] {
				spots = append(spots, impl.Spot{X: place[0], Y: place[1]})
			}
			checkIndexed(t, spots, b)
			checkIndexed(t, append(spots[:1:1], spots[5:]...), b)
		}
	}
}

// A basis of determinant 1 has every spot, one of a great determinant the first
// spot alone and those at its place.
func TestIndexedFromDeterminants(t *testing.T) {
	var d dice
	for range 300 {
		spots := d.strays(int(d.between(1, spotsMost)), spotAtMost)
		one := basisOf(1, 0, 0, 1)
		for range 8 {
			next := []impl.Basis{basisOf(one.BX, one.BY, -one.AX, -one.AY), basisOf(one.AX+one.BX, one.AY+one.BY, one.BX, one.BY), basisOf(one.AX, one.AY, one.BX-one.AX, one.BY-one.AY)}[d.between(0, 2)]
			if isBasisByRule(next) {
				one = next
			}
		}
		if areaOf(one) != 1 || impl.Indexed(spots, one) != int64(len(spots)) {
			t.Error(spots, one, impl.Indexed(spots, one))
		}
		small := []impl.Spot{}
		alone := int64(0)
		for _, s := range spots {
			s.X, s.Y = s.X%500, s.Y%500
			small = append(small, s)
			if s.X == small[0].X && s.Y == small[0].Y {
				alone++
			}
		}
		if got := impl.Indexed(small, basisOf(500, -500, 500, 500)); got != alone {
			t.Error(small, got, alone)
		}
	}
}

// Seen from the first spot, whether it is a corner of the lattice or not: with
// a stray ahead only those count that are as far from it.
func TestIndexedFromTheFirstSpot(t *testing.T) {
	var d dice
	alone := 0
	for range 300 {
		b := d.basis(30)
		on := d.latticeSpots(b, int(d.between(1, spotsMost-1)), 4)
		if got := impl.Indexed(on, b); got != int64(len(on)) {
			t.Error(on, b, got)
		}
		stray := on[0]
		stray.X, stray.Y = min(stray.X+d.between(0, 3), spotAtMost), min(stray.Y+d.between(0, 3), spotAtMost)
		from := slices.Concat([]impl.Spot{stray}, on)
		want := int64(1)
		if isSumBySearch(b, stray.X-on[0].X, stray.Y-on[0].Y) {
			want = int64(len(from))
		} else {
			alone++
		}
		if got := impl.Indexed(from, b); got != want {
			t.Error(from, b, got, want)
		}
		if got := impl.Indexed(slices.Concat(on, from[:1]), b); got != int64(len(on))+want/int64(len(from)) {
			t.Error(on, stray, b, got)
		}
	}
	if alone < 100 {
		t.Error("too few strays:", alone)
	}
}

func TestBasisEdges(t *testing.T) {
	spots := handSpots()
	numbers := []int64{-spotAtMost - 1, -spotAtMost, -1, 0, 1, spotAtMost, spotAtMost + 1}
	for _, ax := range numbers {
		for _, ay := range numbers {
			for _, bx := range numbers {
				for _, by := range numbers {
					b := basisOf(ax, ay, bx, by)
					if got := checkIndexed(t, spots, b); (got > 0) != isBasisByRule(b) {
						t.Error(b, got)
					}
				}
			}
		}
	}
	for _, b := range wrongBases() {
		if got := impl.Indexed(spots, b); got != 0 || isBasisByRule(b) {
			t.Error(b, got)
		}
	}
}

func TestFindBasisByHand(t *testing.T) {
	for _, c := range []struct {
		spots []impl.Spot
		want  impl.Basis
		count int64
	}{
		{nil, impl.Basis{}, 0},
		{spotsAt(5, 5), impl.Basis{}, 0},
		{spotsAt(5, 5, 9, 9), impl.Basis{}, 0},
		{spotsAt(5, 5, 5, 5, 5, 5), impl.Basis{}, 0},
		{spotsAt(5, 5, 5, 5, 9, 1), impl.Basis{}, 0},
		{spotsAt(0, 0, 2, 3, 4, 6, 10, 15), impl.Basis{}, 0},
		{spotsAt(3, 0, 3, 7, 3, 1000), impl.Basis{}, 0},
		{spotsAt(0, 4, 1000, 4, 999, 4), impl.Basis{}, 0},
		{handSpots()[:3], basisOf(-4, 0, 0, -5), 3},
		{spotsAt(0, 0, 1, 0, 0, 1), basisOf(-1, 0, 0, -1), 3},
		{spotsAt(0, 0, 1, 0, 0, 1, 1, 1), basisOf(-1, -1, 0, -1), 4},
		{spotsAt(0, 0, 2, 0, 0, 3, 1, 1), basisOf(-2, 3, -1, 1), 4},
		{spotsAt(0, 0, 1000, 0, 0, 1000), basisOf(-1000, 0, 0, -1000), 3},
		{spotsAt(0, 0, 1000, 1000, 1000, 0, 0, 1000), basisOf(-1000, -1000, 0, -1000), 4},
		{spotsAt(0, 0, 0, 0, 4, 0, 0, 5, 0, 5), basisOf(-4, 0, 0, -5), 5},
	} {
		got, count := impl.FindBasis(c.spots)
		want, wantCount := findByRule(c.spots)
		if got != c.want || count != c.count || want != c.want || wantCount != c.count {
			t.Error(c, got, count, want, wantCount)
		}
	}
}

// P17: FindBasis' count is Indexed, and no basis of two differences has more.
func checkFind(t *testing.T, spots []impl.Spot) (impl.Basis, int64) {
	t.Helper()
	got, count := impl.FindBasis(spots)
	bases := basesByRule(spots)
	if len(bases) == 0 {
		if got != (impl.Basis{}) || count != 0 {
			t.Error(spots, got, count)
		}
		return got, count
	}
	if !slices.Contains(bases, got) || count != impl.Indexed(spots, got) || count != indexedByRule(spots, got) {
		t.Error(spots, got, count)
	}
	for _, b := range bases {
		if impl.Indexed(spots, b) > count {
			t.Error(spots, got, count, b)
		}
	}
	if want, wantCount := findByRule(spots); got != want || count != wantCount {
		t.Error(spots, got, count, want, wantCount)
	}
	return got, count
}

func TestFindBasisByRule(t *testing.T) {
	var d dice
	found, none := 0, 0
	for range 25 {
		for _, spots := range d.spotLists(0, 1, 2, 3, 4, 5, 7) {
			if _, count := checkFind(t, spots); count > 0 {
				found++
			} else {
				none++
			}
		}
	}
	if min(found, none) < 200 {
		t.Error("too few of a kind:", found, none)
	}
	for _, spots := range d.spotLists(11, spotsMost) {
		checkFind(t, spots)
	}
}

// All spots of a small square, three of them, and more of a greater one: each
// place of the order decides, against all that stands behind it. BY never does:
// the best basis has an AX below 0, as of the vectors there and back one has,
// and with AX, AY, BX and the determinant BY is told.
func TestFindBasisDecides(t *testing.T) {
	by := [6]int{}
	tell := func(spots []impl.Spot) {
		checkFind(t, spots)
		for place, decides := range decidedBy(spots) {
			if decides {
				by[place]++
			}
		}
	}
	for _, n := range smallSurfaces(6, 2) {
		tell(spotsAt(n...))
	}
	var d dice
	for range 300 {
		tell(d.strays(int(d.between(4, 6)), d.between(2, 6)))
	}
	// with far spots in low rows, a small determinant may have the least AX
	for range 1000 {
		x, y := d.counts(4, 9), d.counts(4, 6)
		tell(spotsAt(x[0], y[0], x[1], y[1], x[2], y[2], 10*x[3], y[3]))
	}
	if slices.Min(by[:5]) < 50 || by[5] != 0 {
		t.Error("too few that are decided so:", by)
	}
}

// The most Indexed first, then the greatest determinant, then the numbers in
// their order.
func TestFindBasisChooses(t *testing.T) {
	for _, c := range []struct {
		why   string
		spots []impl.Spot
		want  impl.Basis
		count int64
	}{
		{"five spots ahead of a greater determinant", spotsAt(0, 0, 2, 0, 0, 2, 2, 2, 4, 2, 7, 9), basisOf(-4, -2, -2, -2), 5},
		{"determinants of 4, 5 and 20 with three each", spotsAt(0, 0, 4, 0, 0, 5, 1, 1), basisOf(-4, 0, 0, -5), 3},
		{"AX", spotsAt(0, 0, 4, 0, 0, 5), basisOf(-4, 0, 0, -5), 3},
		{"AY", spotsAt(0, 5, 4, 5, 0, 0), basisOf(-4, -5, 0, -5), 3},
		{"BX", spotsAt(0, 0, 1, 0, 0, 1, 1, 1), basisOf(-1, -1, 0, -1), 4},
	} {
		if got, count := checkFind(t, c.spots); got != c.want || count != c.count {
			t.Error(c.why, got, count)
		}
	}
}

// The order of the spots decides nothing but which one is the first.
func TestFindBasisInEveryOrder(t *testing.T) {
	var d dice
	for range 40 {
		spots := d.strays(5, d.between(3, 12))
		for _, order := range ordersOf(4) {
			turned := []impl.Spot{spots[0]}
			for _, i := range order {
				turned = append(turned, spots[1+i])
			}
			want, wantCount := impl.FindBasis(spots)
			if got, count := impl.FindBasis(turned); got != want || count != wantCount {
				t.Error(spots, turned, got, count)
			}
		}
		for first := range spots {
			turned := slices.Concat(spots[first:], spots[:first])
			checkFind(t, turned)
		}
	}
}

func TestVotesByHand(t *testing.T) {
	for _, c := range []struct {
		spots []impl.Spot
		want  []impl.Vote
	}{
		{nil, nil},
		{spotsAt(4, 4), nil},
		{spotsAt(3, 3, 3, 3), nil},
		{spotsAt(3, 5, 3, 1), []impl.Vote{{X: 0, Y: 4, Count: 1}}},
		{spotsAt(3, 1, 3, 5), []impl.Vote{{X: 0, Y: 4, Count: 1}}},
		{spotsAt(1, 5, 2, 1), []impl.Vote{{X: 1, Y: -4, Count: 1}}},
		{spotsAt(2, 1, 1, 5), []impl.Vote{{X: 1, Y: -4, Count: 1}}},
		{spotsAt(9, 2, 3, 2), []impl.Vote{{X: 6, Y: 0, Count: 1}}},
		{spotsAt(0, 0, 1, 0, 2, 0), []impl.Vote{{X: 1, Count: 2}, {X: 2, Count: 1}}},
		{handSpots()[:3], []impl.Vote{{Y: 5, Count: 1}, {X: 4, Y: -5, Count: 1}, {X: 4, Count: 1}}},
		{spotsAt(0, 0, 1, 0, 0, 1, 1, 1), []impl.Vote{{X: 0, Y: 1, Count: 2}, {X: 1, Y: 0, Count: 2}, {X: 1, Y: -1, Count: 1}, {X: 1, Y: 1, Count: 1}}},
		{spotsAt(0, 0, 0, 0, 5, 7, 5, 7), []impl.Vote{{X: 5, Y: 7, Count: 4}}},
		{spotsAt(1000, 0, 0, 1000, 0, 0), []impl.Vote{{X: 0, Y: 1000, Count: 1}, {X: 1000, Y: -1000, Count: 1}, {X: 1000, Y: 0, Count: 1}}},
		{spotsAt(5, 5, 5, 5, 5, 6, 8, 1), []impl.Vote{{X: 0, Y: 1, Count: 2}, {X: 3, Y: -4, Count: 2}, {X: 3, Y: -5, Count: 1}}},
	} {
		if got := impl.Votes(c.spots); !slices.Equal(got, c.want) || !slices.Equal(votesByRule(c.spots), c.want) {
			t.Error(c, got)
		}
	}
}

func checkVotes(t *testing.T, spots []impl.Spot) int {
	t.Helper()
	got := impl.Votes(spots)
	if !slices.Equal(got, votesByRule(spots)) {
		t.Error(spots, got)
	}
	return len(got)
}

func TestVotesByRule(t *testing.T) {
	var d dice
	for range 60 {
		for _, spots := range d.spotLists(0, 1, 2, 3, 4, 5, 7, 9, 12, spotsMost) {
			checkVotes(t, spots)
		}
	}
	for _, n := range smallSurfaces(6, 3) {
		checkVotes(t, spotsAt(n...))
	}
}

// Each two spots at unlike places vote once, whatever the order of the spots.
func TestVotesTogether(t *testing.T) {
	var d dice
	for range 300 {
		spots := d.strays(int(d.between(0, spotsMost)), d.between(1, 20))
		unlike, sum := int64(0), int64(0)
		for i, a := range spots {
			for _, b := range spots[:i] {
				if a.X != b.X || a.Y != b.Y {
					unlike++
				}
			}
		}
		votes := impl.Votes(spots)
		for i, v := range votes {
			sum += v.Count
			if v.X < 0 || v.X == 0 && v.Y <= 0 || v.Count < 1 {
				t.Error(spots, v)
			}
			if i > 0 && votes[i-1].Count < v.Count {
				t.Error(spots, votes)
			}
		}
		if sum != unlike || !slices.Equal(impl.Votes(d.mixed(slices.Clone(spots))), votes) {
			t.Error(spots, votes)
		}
	}
	// the most that there can be
	far := []impl.Spot{}
	for i := range int64(spotsMost) {
		far = append(far, impl.Spot{X: i * (i + 1) * 4, Y: spotAtMost - i*i*i/4})
	}
	if got := checkVotes(t, far); got != spotsMost*(spotsMost-1)/2 {
		t.Error(got)
	}
}

// Spots that are not as told are refused by each function alike.
func TestWrongSpots(t *testing.T) {
	for _, spots := range wrongSpots() {
		if areSpotsByRule(spots) {
			t.Error(spots)
		}
		for _, b := range []impl.Basis{basisOf(1, 0, 0, 1), basisOf(4, 0, 0, 5), {}} {
			if got := impl.Indexed(spots, b); got != 0 {
				t.Error(spots, b, got)
			}
		}
		if got, count := impl.FindBasis(spots); got != (impl.Basis{}) || count != 0 {
			t.Error(spots, got, count)
		}
		if got := impl.Votes(spots); len(got) != 0 {
			t.Error(spots, got)
		}
	}
}

func TestSpotEdges(t *testing.T) {
	numbers := []int64{-1, 0, spotAtMost, spotAtMost + 1}
	for _, x := range numbers {
		for _, y := range numbers {
			right := allFrom([]int64{x, y}, 0, spotAtMost)
			for place := range 3 {
				spots := spotsAt(3, 3, 8, 3, 3, 9)
				spots[place].X, spots[place].Y = x, y
				if got := checkIndexed(t, spots, basisOf(1, 0, 0, 1)); (got == 3) != right || got != 0 != right {
					t.Error(spots, got)
				}
				if _, count := checkFind(t, spots); (count == 3) != right {
					t.Error(spots, count)
				}
				if got := checkVotes(t, spots); (got == 3) != right {
					t.Error(spots, got)
				}
			}
		}
	}
}

func TestMaxSpots(t *testing.T) {
	var d dice
	for range 20 {
		spots := append(d.latticeSpots(d.basis(9), spotsMost-1, 3), d.spot(20))
		b := d.basis(9)
		if got := checkIndexed(t, spots, b); got == 0 || impl.Indexed(append(spots, spots[0]), b) != 0 {
			t.Error(spots, b, got)
		}
		if _, count := impl.FindBasis(spots); count == 0 {
			t.Error(spots)
		}
		if got, count := impl.FindBasis(append(spots, spots[0])); got != (impl.Basis{}) || count != 0 {
			t.Error(spots, got, count)
		}
		if checkVotes(t, spots) == 0 || len(impl.Votes(append(spots, spots[0]))) != 0 {
			t.Error(spots)
		}
	}
}

// A spot's peak tells nothing here, whatever it is.
func TestPeaksOfSpots(t *testing.T) {
	for _, peak := range []int64{0, 1, -1, countMost, countMost + 1, math.MaxInt64, math.MinInt64} {
		spots := handSpots()
		for i := range spots {
			spots[i].Peak = peak
		}
		if got := impl.Indexed(spots, basisOf(4, 0, 0, 5)); got != 4 {
			t.Error(peak, got)
		}
		want, wantCount := impl.FindBasis(handSpots())
		if got, count := impl.FindBasis(spots); got != want || count != wantCount || count == 0 {
			t.Error(peak, got, count)
		}
		if !slices.Equal(impl.Votes(spots), impl.Votes(handSpots())) {
			t.Error(peak)
		}
	}
}

func TestStrategyByHand(t *testing.T) {
	full := handFamilies()
	for _, c := range []struct {
		exposures [][]int64
		want      []int64
	}{
		{nil, nil},
		{[][]int64{nil}, nil},
		{[][]int64{{}, {}, {}}, nil},
		{[][]int64{{0}}, []int64{0}},
		{[][]int64{{63}}, []int64{0}},
		{[][]int64{{}, {63}, {}}, []int64{1}},
		{[][]int64{{5}, {5}}, []int64{0}},
		{[][]int64{{5, 6}, {5}, {6}}, []int64{0}},
		{[][]int64{{5}, {6}, {5, 6}}, []int64{2}},
		{[][]int64{{63}, {0}}, []int64{0, 1}},
		{[][]int64{{0}, {1}, {0, 1, 2}, {2}}, []int64{2}},
		{[][]int64{{0, 1}, {2, 3}, {0, 2}, {1, 3}}, []int64{0, 1}},
		{[][]int64{{0}, {1, 2}, {0, 1}, {2}}, []int64{0, 1}},
		{[][]int64{{0, 1}, {1, 2}, {2, 3}, {3, 4}, {0, 4}}, []int64{0, 1, 3}},
		{[][]int64{{0, 1, 2, 3}, {0, 1, 4}, {2, 3, 5}}, []int64{1, 2}},
		{[][]int64{{1, 2, 3, 4, 5, 6}, {1, 3, 5, 7}, {2, 4, 6, 8}, {1, 2}}, []int64{1, 2}},
		{[][]int64{{7}, {1}, {1, 2}, {2}, {2, 3}, {3}}, []int64{0, 1, 4}},
		{handExposures(), []int64{0, 1, 3}},
		{full[len(full)-2], []int64{0, 1, 2, 3, 4, 5, 6, 7, 8, 9, 10, 11}},
		{full[len(full)-1], nil},
	} {
		if got := impl.Strategy(c.exposures); !slices.Equal(got, c.want) || !slices.Equal(strategyByRule(c.exposures), c.want) {
			t.Error(c, got)
		}
	}
}

// P17: Strategy is a strategy, and no other has fewer exposures; of those with
// as many it is the first. No witness has more numbers than it has exposures.
func checkStrategy(t *testing.T, exposures [][]int64) []int64 {
	t.Helper()
	got := impl.Strategy(exposures)
	if !impl.StrategyOk(exposures, got) || !isStrategyByRule(exposures, got) {
		t.Error(exposures, got)
	}
	if want := strategyByRule(exposures); !slices.Equal(got, want) {
		t.Error(exposures, got, want)
	}
	if w := impl.Witness(exposures); len(w) > len(got) {
		t.Error(exposures, got, w)
	}
	return got
}

func TestStrategyByRule(t *testing.T) {
	var d dice
	for _, exposures := range slices.Concat(handFamilies(), d.families(1, 2, 3, 4, 5, 6, 8, 10, exposuresMost)) {
		checkStrategy(t, exposures)
	}
}

// All families of three exposures with reflections of three.
func TestStrategyOfSmallFamilies(t *testing.T) {
	subsets := [][]int64{{}, {0}, {1}, {0, 1}, {2}, {0, 2}, {1, 2}, {0, 1, 2}}
	for _, n := range smallSurfaces(3, 7) {
		exposures := [][]int64{subsets[n[0]], subsets[n[1]], subsets[n[2]]}
		checkStrategy(t, exposures)
		checkWitness(t, exposures)
		for _, list := range allLists() {
			if len(list) <= 4 && allFrom(list, 0, 3) {
				checkStrategyOk(t, exposures, list)
				checkWitnessOk(t, exposures, list)
			}
		}
	}
}

// fullestFirst takes the exposure with the most reflections that are still
// missing, until none are.
func fullestFirst(exposures [][]int64) int {
	taken := []int64{}
	for count := 0; ; count++ {
		best := []int64{}
		for _, e := range exposures {
			missing := []int64{}
			for _, reflection := range e {
				if !slices.Contains(taken, reflection) {
					missing = append(missing, reflection)
				}
			}
			if len(missing) > len(best) {
				best = missing
			}
		}
		if len(best) == 0 {
			return count
		}
		taken = append(taken, best...)
	}
}

// Families in which the least strategy is not found by taking the fullest
// exposure first, and some whose witness is shorter than each strategy.
func TestStrategyIsTheLeast(t *testing.T) {
	var d dice
	longer, shorter, ties := 0, 0, 0
	for _, exposures := range slices.Concat(handFamilies(), d.families(5, 6, 7, 8, 9, 10, 11, exposuresMost)) {
		got := checkStrategy(t, exposures)
		if fullestFirst(exposures) > len(got) {
			longer++
		}
		if len(impl.Witness(exposures)) < len(got) {
			shorter++
		}
		if all := strategiesByRule(exposures); len(all) > 1 {
			ties++
		}
	}
	if min(longer, shorter, ties) < 10 {
		t.Error("too few of a kind:", longer, shorter, ties)
	}
}

func checkStrategyOk(t *testing.T, exposures [][]int64, list []int64) bool {
	t.Helper()
	got := impl.StrategyOk(exposures, list)
	if got != isStrategyByRule(exposures, list) {
		t.Error(exposures, list, got)
	}
	return got
}

func TestStrategyOkByRule(t *testing.T) {
	var d dice
	right, wrong := 0, 0
	for _, exposures := range slices.Concat(handFamilies(), d.families(1, 2, 4, 7)) {
		for _, list := range allLists()[:800] {
			if checkStrategyOk(t, exposures, list) {
				right++
			} else {
				wrong++
			}
		}
		for _, list := range wrongLists(int64(len(exposures))) {
			checkStrategyOk(t, exposures, list)
		}
	}
	if min(right, wrong) < 2000 {
		t.Error("too few of a kind:", right, wrong)
	}
}

func TestStrategyOkByHand(t *testing.T) {
	e := handExposures()
	for _, list := range [][]int64{{0, 1, 3}, {0, 2, 3}, {1, 2, 3}, {0, 1, 2, 3}} {
		if !impl.StrategyOk(e, list) {
			t.Error(list)
		}
	}
	for _, list := range append(wrongLists(4), nil, []int64{}, []int64{0}, []int64{0, 3}, []int64{0, 1}, []int64{2, 3}, []int64{0, 1, 2}, []int64{0, 2}, []int64{3}) {
		if impl.StrategyOk(e, list) {
			t.Error(list)
		}
	}
	for _, none := range [][][]int64{nil, {}, {nil}, {{}, {}}} {
		if !impl.StrategyOk(none, nil) || !impl.StrategyOk(none, []int64{}) || impl.StrategyOk(none, []int64{int64(len(none))}) || impl.StrategyOk(none, []int64{-1}) {
			t.Error(none)
		}
	}
	if !impl.StrategyOk([][]int64{{}}, []int64{0}) || impl.StrategyOk([][]int64{{1}}, nil) {
		t.Error("what an exposure has is needed, and what is not may be there")
	}
}

func TestWitnessByHand(t *testing.T) {
	full := handFamilies()
	for _, c := range []struct {
		exposures [][]int64
		want      []int64
	}{
		{nil, nil},
		{[][]int64{nil}, nil},
		{[][]int64{{0}}, []int64{0}},
		{[][]int64{{63}}, []int64{63}},
		{[][]int64{{0, 63}}, []int64{0}},
		{[][]int64{{63}, {0}}, []int64{0, 63}},
		{[][]int64{{5}, {5}}, []int64{5}},
		{[][]int64{{1, 2}, {2, 3}}, []int64{1, 3}},
		{[][]int64{{0, 1}, {0, 2}, {0, 3}}, []int64{0}},
		{[][]int64{{1}, {0, 1}, {0, 2}, {3}}, []int64{0, 3}},
		{[][]int64{{0, 1}, {1, 2}, {2, 3}, {3, 4}, {0, 4}}, []int64{0, 2}},
		{handExposures(), []int64{0, 2}},
		{full[len(full)-2], []int64{0, 5, 10, 15, 20, 25, 30, 35, 40, 45, 50, 55}},
		{full[len(full)-1], nil},
	} {
		if got := impl.Witness(c.exposures); !slices.Equal(got, c.want) || !slices.Equal(witnessByRule(c.exposures), c.want) {
			t.Error(c, got)
		}
	}
}

func checkWitness(t *testing.T, exposures [][]int64) {
	t.Helper()
	got := impl.Witness(exposures)
	if want := witnessByRule(exposures); !slices.Equal(got, want) || impl.WitnessOk(exposures, got) != areExposuresByRule(exposures) {
		t.Error(exposures, got, want)
	}
}

func checkWitnessOk(t *testing.T, exposures [][]int64, list []int64) bool {
	t.Helper()
	got := impl.WitnessOk(exposures, list)
	if got != isWitnessByRule(exposures, list) {
		t.Error(exposures, list, got)
	}
	return got
}

func TestWitnessByRule(t *testing.T) {
	var d dice
	right, wrong := 0, 0
	for _, exposures := range slices.Concat(handFamilies(), d.families(1, 2, 3, 5, 9, exposuresMost), d.families(1, 2, 3, 5, 9, exposuresMost)) {
		checkWitness(t, exposures)
		for _, list := range slices.Concat(wrongLists(reflectionsMost), allLists()[:100], d.exposures(50, reflectionsMost-1, 20)) {
			if checkWitnessOk(t, exposures, list) {
				right++
			} else {
				wrong++
			}
		}
		for number := int64(-2); number < reflectionsMost+2; number++ {
			stands := slices.ContainsFunc(exposures, func(e []int64) bool { return slices.Contains(e, number) })
			if impl.WitnessOk(exposures, []int64{number}) != stands {
				t.Error(exposures, number)
			}
		}
	}
	if min(right, wrong) < 1000 {
		t.Error("too few of a kind:", right, wrong)
	}
}

func TestWitnessOkByHand(t *testing.T) {
	e := handExposures()
	for _, list := range [][]int64{nil, {}, {0}, {1}, {2}, {3}, {4}, {0, 2}, {0, 4}, {1, 4}, {3, 4}} {
		if !impl.WitnessOk(e, list) {
			t.Error(list)
		}
	}
	for _, list := range append(wrongLists(reflectionsMost), []int64{0, 1}, []int64{0, 3}, []int64{1, 2}, []int64{1, 3}, []int64{2, 3}, []int64{2, 4}, []int64{9}, []int64{5}, []int64{63}, []int64{0, 9}, []int64{0, 2, 4}, []int64{2, 0}, []int64{4, 4}) {
		if impl.WitnessOk(e, list) {
			t.Error(list)
		}
	}
	for _, none := range [][][]int64{nil, {}, {nil}, {{}, {}}} {
		if !impl.WitnessOk(none, nil) || !impl.WitnessOk(none, []int64{}) || impl.WitnessOk(none, []int64{0}) {
			t.Error(none)
		}
	}
}

// P17: no witness has more numbers than a strategy has exposures: every list
// that is a witness, and every one that is a strategy.
func TestNoWitnessIsLonger(t *testing.T) {
	var d dice
	just := 0
	for range 150 {
		exposures := d.exposures(int(d.between(0, 7)), 9, d.between(1, 6))
		longest := 0
		for _, list := range allLists() {
			if allFrom(list, 0, 9) && impl.WitnessOk(exposures, list) {
				longest = max(longest, len(list))
			}
		}
		for _, list := range allLists() {
			if impl.StrategyOk(exposures, list) && len(list) < longest {
				t.Error(exposures, list, longest)
			}
		}
		best := len(impl.Strategy(exposures))
		if longest > best {
			t.Error(exposures, best, longest)
		}
		if longest == best && best > 1 {
			just++
		}
	}
	if just < 30 {
		t.Error("too few with as many:", just)
	}
}

// Exposures that are not as told are refused by each function alike.
func TestWrongExposures(t *testing.T) {
	for _, exposures := range wrongExposures() {
		if areExposuresByRule(exposures) {
			t.Error(exposures)
		}
		if got := impl.Strategy(exposures); len(got) != 0 {
			t.Error(exposures, got)
		}
		if got := impl.Witness(exposures); len(got) != 0 {
			t.Error(exposures, got)
		}
		for _, list := range [][]int64{nil, {}, {0}, {1}, {63}, {0, 1}, {0, 1, 2, 3}, {1, 2, 3}, {0, 2}, {0, 1, 2, 3, 4, 5, 6, 7, 8, 9, 10, 11, 12}} {
			if impl.StrategyOk(exposures, list) || impl.WitnessOk(exposures, list) {
				t.Error(exposures, list)
			}
		}
	}
}

func TestExposureEdges(t *testing.T) {
	for _, count := range []int{0, 1, exposuresMost - 1, exposuresMost, exposuresMost + 1, exposuresMost + 2, 64, 65} {
		exposures := make([][]int64, count)
		all := []int64{}
		for i := range exposures {
			exposures[i] = []int64{int64(i % reflectionsMost)}
			all = append(all, int64(i))
		}
		want := all
		if count > exposuresMost {
			want = nil
		}
		if got := impl.Strategy(exposures); !slices.Equal(got, want) {
			t.Error(count, got)
		}
		if got := impl.Witness(exposures); !slices.Equal(got, want) {
			t.Error(count, got)
		}
		if right := count <= exposuresMost; impl.StrategyOk(exposures, all) != right || impl.WitnessOk(exposures, nil) != right || impl.WitnessOk(exposures, all) != right {
			t.Error(count)
		}
	}
	for _, number := range []int64{math.MinInt64, -1, 0, 1, reflectionsMost - 1, reflectionsMost, math.MaxInt64} {
		right := number >= 0 && number < reflectionsMost
		for _, exposures := range [][][]int64{{{number}}, {{}, {number}}, {{number}, {}}} {
			if (len(impl.Strategy(exposures)) == 1) != right || slices.Equal(impl.Witness(exposures), []int64{number}) != right {
				t.Error(exposures)
			}
			if impl.WitnessOk(exposures, []int64{number}) != right || impl.StrategyOk(exposures, []int64{0, 1}[:len(exposures)]) != right {
				t.Error(exposures)
			}
		}
	}
}

func TestSpotsStay(t *testing.T) {
	var d dice
	for _, spots := range slices.Concat(d.spotLists(0, 1, 4, 8, spotsMost), wrongSpots()) {
		room := append(slices.Clone(spots), impl.Spot{X: 3, Y: 4, Peak: 5}, impl.Spot{X: -1})
		want := slices.Clone(room)
		given := room[:len(spots)]
		impl.Indexed(given, basisOf(2, 1, 0, 1))
		impl.FindBasis(given)
		votes := impl.Votes(given)
		for i := range votes[:cap(votes)] {
			votes[:cap(votes)][i] = impl.Vote{X: -9}
		}
		if !slices.Equal(room, want) {
			t.Error(spots, room)
		}
	}
}

func TestExposuresStay(t *testing.T) {
	var d dice
	for _, exposures := range slices.Concat(handFamilies(), d.families(3, 7, exposuresMost), wrongExposures()) {
		rooms := [][]int64{}
		for _, e := range exposures {
			rooms = append(rooms, append(slices.Clone(e), 5, -1, 64))
		}
		wantRooms := cloneLists(rooms)
		given := make([][]int64, len(exposures), len(exposures)+2)
		for i, e := range exposures {
			given[i] = rooms[i][:len(e)]
		}
		behind := []int64{7, 7}
		given[:cap(given)][len(given)] = behind
		list := []int64{0, 1, 2, 64, -1}
		impl.StrategyOk(given, list[:3])
		impl.WitnessOk(given, list[:3])
		spoilNumbers(impl.Strategy(given), impl.Witness(given))
		if !sameLists(rooms, wantRooms) || !sameLists(given, exposures) || !slices.Equal(list, []int64{0, 1, 2, 64, -1}) {
			t.Error(exposures)
		}
		if !slices.Equal(behind, []int64{7, 7}) || len(given[:cap(given)][len(given)]) != 2 {
			t.Error(exposures, behind)
		}
	}
}

// What lies behind a list's length is not of it.
func TestIndexLeavesOutWhatLiesBehind(t *testing.T) {
	spots := append(handSpots(), impl.Spot{X: -1})
	if got := impl.Indexed(spots[:5], basisOf(4, 0, 0, 5)); got != 4 {
		t.Error(got)
	}
	if got, count := impl.FindBasis(spots[:3]); got != basisOf(-4, 0, 0, -5) || count != 3 {
		t.Error(got, count)
	}
	if got := impl.Votes(spots[:2]); !slices.Equal(got, []impl.Vote{{X: 4, Count: 1}}) {
		t.Error(got)
	}
	if got := impl.Votes(spots[:0]); len(got) != 0 || impl.Indexed(spots[:0], basisOf(4, 0, 0, 5)) != 0 {
		t.Error(got)
	}
	row := []int64{0, 1, 2, 1, 64}
	exposures := [][]int64{row[:2], row[2:3], row[:0], {-1}}
	if got := impl.Strategy(exposures[:3]); !slices.Equal(got, []int64{0, 1}) {
		t.Error(got)
	}
	if got := impl.Witness(exposures[:3]); !slices.Equal(got, []int64{0, 2}) {
		t.Error(got)
	}
	if got := impl.Strategy(exposures[2:3]); len(got) != 0 {
		t.Error(got)
	}
	if !impl.StrategyOk(exposures[:3], row[:2]) || impl.StrategyOk(exposures[:3], row[:1]) || !impl.WitnessOk(exposures[:3], row[2:3]) {
		t.Error("what lies behind is no exposure")
	}
}

func TestIndexAnswersAreNewMemory(t *testing.T) {
	for _, spots := range [][]impl.Spot{handSpots(), spotsAt(0, 0, 3, 4)} {
		checkNewList(t, "Votes", func() []impl.Vote { return impl.Votes(spots) })
	}
	for _, exposures := range [][][]int64{handExposures(), {{0}, {1}}, {{2, 3}, {1, 2}, {0, 1}}} {
		checkNewList(t, "Strategy", func() []int64 { return impl.Strategy(exposures) })
		checkNewList(t, "Witness", func() []int64 { return impl.Witness(exposures) })
		if !shareNothing(append(cloneLists(exposures), impl.Strategy(exposures), impl.Witness(exposures))) {
			t.Error("two lists share memory")
		}
		if !shareNothing(append(exposures, impl.Strategy(exposures), impl.Witness(exposures))) {
			t.Error("an answer shares memory with an exposure")
		}
	}
}

// Exposures that are one in memory, and a list that lies in one of them.
func TestExposuresOfOneMemory(t *testing.T) {
	row := []int64{0, 1, 2, 3}
	exposures := [][]int64{row[:2], row[1:], row[:0], row[1:3]}
	if got := impl.Strategy(exposures); !slices.Equal(got, []int64{0, 1}) {
		t.Error(got)
	}
	if got := impl.Witness(exposures); !slices.Equal(got, []int64{0, 2}) {
		t.Error(got)
	}
	if !impl.StrategyOk(exposures, row[:2]) || !impl.StrategyOk(exposures, row) || impl.StrategyOk(exposures, row[1:]) || impl.WitnessOk(exposures, row[:2]) {
		t.Error("a list in an exposure is a list")
	}
	if !slices.Equal(row, []int64{0, 1, 2, 3}) {
		t.Error(row)
	}
}

// Every call answers the same, one behind the other and all at once.
func TestIndexAnswersTheSame(t *testing.T) {
	shared := new(dice).strays(6, 9)
	basis, count := findByRule(shared)
	family := new(dice).exposures(8, 15, 3)
	best, witness := strategyByRule(family), witnessByRule(family)
	var all sync.WaitGroup
	for start := range 8 {
		all.Go(func() {
			d := dice(start)
			spots, exposures := d.strays(9, 12), d.exposures(9, 12, 3)
			b := d.basis(4)
			indexed, votes, strategy := indexedByRule(spots, b), votesByRule(spots), strategyByRule(exposures)
			for range 20 {
				if got, n := impl.FindBasis(shared); got != basis || n != count {
					t.Error(start, got, n)
				}
				if impl.Indexed(spots, b) != indexed || !slices.Equal(impl.Votes(spots), votes) {
					t.Error(start, spots)
				}
				if !slices.Equal(impl.Strategy(exposures), strategy) || !slices.Equal(impl.Strategy(family), best) {
					t.Error(start, exposures)
				}
				if !slices.Equal(impl.Witness(family), witness) || !impl.WitnessOk(family, witness) || !impl.StrategyOk(family, best) {
					t.Error(start, family)
				}
			}
		})
	}
	all.Wait()
}

func (d *dice) wildSpots() []impl.Spot {
	spots := d.strays(int(d.between(0, 6)), d.between(1, 30))
	if len(spots) == 0 {
		return spots
	}
	s := &spots[d.between(0, int64(len(spots)-1))]
	switch d.between(0, 9) {
	case 0:
		s.X = d.wildNumber()
	case 1:
		s.Y = d.wildNumber()
	case 2:
		spots = d.strays(int(d.between(spotsMost-1, spotsMost+1)), 3)
	}
	return spots
}

func (d *dice) wildBasis() impl.Basis {
	n := d.numbers(4, []int64{2, 9, spotAtMost + 1}[d.between(0, 2)])
	if d.between(0, 5) == 0 {
		n[d.between(0, 3)] = d.wildNumber()
	}
	return basisOf(n[0], n[1], n[2], n[3])
}

func (d *dice) wildExposures() [][]int64 {
	count := int(d.between(0, 6))
	if d.between(0, 20) == 0 {
		count = int(d.between(exposuresMost-1, exposuresMost+2))
	}
	exposures := d.exposures(count, []int64{3, 12, reflectionsMost - 1}[d.between(0, 2)], d.between(1, 5))
	if count > 0 && d.between(0, 3) == 0 {
		exposures[d.between(0, int64(count-1))] = d.wildList(int(d.between(0, 3)), -1, reflectionsMost)
	}
	return exposures
}

func TestIndexAnswersAtEveryArgument(t *testing.T) {
	var d dice
	kinds := [4]int{}
	tell := func(kind int, right bool) {
		if right {
			kind++
		}
		kinds[kind]++
	}
	for range 3000 {
		spots := d.wildSpots()
		checkIndexed(t, spots, d.wildBasis())
		checkVotes(t, spots)
		if len(spots) < spotsMost || d.between(0, 19) == 0 {
			checkFind(t, spots)
		}
		tell(0, areSpotsByRule(spots))
		exposures := d.wildExposures()
		right := areExposuresByRule(exposures)
		tell(2, right)
		if right && len(exposures) < 8 {
			checkStrategy(t, exposures)
		} else if !right && len(impl.Strategy(exposures)) != 0 {
			t.Error(exposures)
		}
		checkWitness(t, exposures)
		checkStrategyOk(t, exposures, d.wildList(int(d.between(0, 3)), -1, int64(len(exposures))))
		checkStrategyOk(t, exposures, d.exposure(int64(len(exposures)), 2))
		checkWitnessOk(t, exposures, d.wildList(int(d.between(0, 2)), -1, 20))
		checkWitnessOk(t, exposures, d.exposure(20, 10))
	}
	if slices.Min(kinds[:]) < 300 {
		t.Error("too few of a kind:", kinds)
	}
}
