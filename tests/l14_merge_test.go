package tests

import (
	"math"
	"slices"
	"sync"
	"testing"

	"loop.example/g00055/impl"
)

func TestMergeLimits(t *testing.T) {
	got := []int64{impl.MaxI, impl.MaxMerged, impl.MaxList, impl.MaxHkl}
	if !slices.Equal(got, []int64{intensityMost, mergedMost, obsMost, hklMost}) {
		t.Error(got)
	}
}

func TestMergeByHand(t *testing.T) {
	for _, c := range []struct {
		why, group string
		obs        []impl.Obs
		want       []impl.Merged
		lost       int64
	}{
		{"none", "P1", nil, nil, 0},
		{"none, of an empty list", "Fm-3m", []impl.Obs{}, nil, 0},
		{"one", "P1", obsAt(1, 2, 3, 7), []impl.Merged{mergedOf(1, 2, 3, 1, 7, 0, 7, 7)}, 0},
		{"one of 0", "P1", obsAt(1, 2, 3, 0), []impl.Merged{mergedOf(1, 2, 3, 1, 0, 0, 0, 0)}, 0},
		{"one below 0", "P1", obsAt(-1, 2, 3, -7), []impl.Merged{mergedOf(1, -2, -3, 1, -7, 0, -7, -7)}, 0},
		{"the direct beam", "Fd-3m", obsAt(0, 0, 0, 4, 0, 0, 0, 6), []impl.Merged{mergedOf(0, 0, 0, 2, 10, 4, 4, 6)}, 0},
		{"of one reflection", "P1", obsAt(1, 2, 3, 1, 1, 2, 3, 2, 1, 2, 3, 6), []impl.Merged{mergedOf(1, 2, 3, 3, 9, 18, 1, 6)}, 0},
		{"opposites are one", "P1", obsAt(0, 2, -3, 8, 0, -2, 3, 4), []impl.Merged{mergedOf(0, 2, -3, 2, 12, 8, 4, 8)}, 0},
		{"all below 0", "P1", obsAt(3, 0, 0, -1, 3, 0, 0, -5), []impl.Merged{mergedOf(3, 0, 0, 2, -6, 8, -5, -1)}, 0},
		{"a sum of 0", "P1", obsAt(3, 0, 0, -4, 3, 0, 0, 4), []impl.Merged{mergedOf(3, 0, 0, 2, 0, 16, -4, 4)}, 0},
		{"a sum of 0 of three", "P1", obsAt(3, 0, 0, -4, 3, 0, 0, 1, -3, 0, 0, 3), []impl.Merged{mergedOf(3, 0, 0, 3, 0, 24, -4, 3)}, 0},
		{"all alike", "P1", obsAt(1, 0, 0, 9, 1, 0, 0, 9, 1, 0, 0, 9), []impl.Merged{mergedOf(1, 0, 0, 3, 27, 0, 9, 9)}, 0},
		{"not told as one", "P1", obsAt(1, 2, 3, 5, 1, 2, -3, 6, 1, -2, 3, 7, -1, 2, 3, 8),
			[]impl.Merged{mergedOf(1, -2, -3, 1, 8, 0, 8, 8), mergedOf(1, -2, 3, 1, 7, 0, 7, 7), mergedOf(1, 2, -3, 1, 6, 0, 6, 6), mergedOf(1, 2, 3, 1, 5, 0, 5, 5)}, 0},
		{"told as one", "P212121", obsAt(1, 2, 3, 5, 1, 2, -3, 6, 1, -2, 3, 7, -1, 2, 3, 8), []impl.Merged{mergedOf(1, 2, 3, 4, 26, 16, 5, 8)}, 0},
		{"H, then K, then L", "P1", obsAt(2, 0, 0, 1, 1, 9, 9, 2, 1, 9, -9, 3, 1, -9, 9, 4, 0, 9, 0, 5, 0, 0, 9, 6, 10, 0, 0, 7),
			[]impl.Merged{mergedOf(0, 0, 9, 1, 6, 0, 6, 6), mergedOf(0, 9, 0, 1, 5, 0, 5, 5), mergedOf(1, -9, 9, 1, 4, 0, 4, 4), mergedOf(1, 9, -9, 1, 3, 0, 3, 3), mergedOf(1, 9, 9, 1, 2, 0, 2, 2), mergedOf(2, 0, 0, 1, 1, 0, 1, 1), mergedOf(10, 0, 0, 1, 7, 0, 7, 7)}, 0},
		{"an extinct one among them", "P21", handObs(), []impl.Merged{mergedOf(1, 0, 0, 2, 24, 8, 10, 14), mergedOf(2, 1, 0, 1, 5, 0, 5, 5)}, 1},
		{"all extinct", "P21", obsAt(0, 1, 0, 5, 0, -1, 0, 6, 0, 99, 0, -7), nil, 3},
		{"extinct by its centring", "Im-3m", obsAt(1, 0, 0, 5, 1, 1, 0, 6, 0, -1, 1, 9, 1, 1, 1, 7), []impl.Merged{mergedOf(1, 1, 0, 2, 15, 6, 6, 9)}, 2},
		{"with a centre", "P-1", obsAt(1, 1, 0, 6, -1, -1, 0, 10, -1, 1, 0, 1), []impl.Merged{mergedOf(1, -1, 0, 1, 1, 0, 1, 1), mergedOf(1, 1, 0, 2, 16, 8, 6, 10)}, 0},
		{"of three", "P31", obsAt(1, 0, 1, 3, -1, 1, 1, 4, 0, -1, 1, 8, 0, 0, 3, 1, 0, 0, 4, 1), []impl.Merged{mergedOf(0, 0, 3, 1, 1, 0, 1, 1), mergedOf(1, 0, 1, 3, 15, 18, 3, 8)}, 1},
		{"of six", "P6/mmm", obsAt(1, 0, 0, 1, 0, 1, 0, 2, -1, 1, 0, 3, 1, -1, 0, 4), []impl.Merged{mergedOf(1, 0, 0, 4, 10, 16, 1, 4)}, 0},
		{"of the whole cube", "Pm-3m", obsAt(1, 2, 3, 1, -3, 1, 2, 5, 2, 2, 0, 9), []impl.Merged{mergedOf(2, 2, 0, 1, 9, 0, 9, 9), mergedOf(3, 2, 1, 2, 6, 8, 1, 5)}, 0},
		{"at the edges", "Pm-3m", obsAt(100, -100, 100, intensityMost, -100, -100, -100, -intensityMost), []impl.Merged{mergedOf(100, 100, 100, 2, 0, 4*intensityMost, -intensityMost, intensityMost)}, 0},
	} {
		g := spaceGroup(t, c.group)
		if got := impl.Merge(g, c.obs); !slices.Equal(got, c.want) {
			t.Error(c.why, got)
		}
		if got := impl.Lost(g, c.obs); got != c.lost {
			t.Error(c.why, "lost", got)
		}
		if got, lost := mergeByRule(g, c.obs); !slices.Equal(got, c.want) || lost != c.lost {
			t.Error(c.why, "by the rule", got, lost)
		}
	}
}

// checkMerge is for a group. P18: Merge's Counts with Lost are how many there
// are.
func checkMerge(t *testing.T, g []impl.Op, obs []impl.Obs) ([]impl.Merged, int64) {
	t.Helper()
	got, lost := impl.Merge(g, obs), impl.Lost(g, obs)
	want, wantLost := mergeUnder(g, obs)
	if !slices.Equal(got, want) || lost != wantLost {
		t.Error(showAll(g), obs, got, lost, want, wantLost)
	}
	if lost < 0 {
		return got, lost
	}
	counts := lost
	for _, m := range got {
		counts += m.Count
	}
	if counts != int64(len(obs)) {
		t.Error(showAll(g), obs, got, lost)
	}
	return got, lost
}

func TestMergeByRule(t *testing.T) {
	var d dice
	lost, noughts, shared, below := 0, 0, 0, 0
	for _, s := range spaces() {
		g := mustClose(t, s.gens...)
		for _, most := range []int64{0, 1, 3, 1000, intensityMost} {
			for _, count := range []int{1, 2, 5, 30, 80} {
				obs := d.obsUnder(g, 1+count/4, count, most)
				merged, gone := checkMerge(t, g, obs)
				lost += int(gone)
				for _, m := range merged {
					if m.Sum == 0 && m.Dev > 0 {
						noughts++
					}
					if m.Count > 1 {
						shared++
					}
					if m.Sum < 0 {
						below++
					}
				}
			}
		}
	}
	if min(lost, noughts, shared, below) < 100 {
		t.Error("too few of a kind:", lost, noughts, shared, below)
	}
}

// Observations of one reflection, of its kin alone, of extinct ones alone.
func TestMergeOfOneReflection(t *testing.T) {
	var d dice
	extinct, there := 0, 0
	for _, s := range spaces() {
		g := mustClose(t, s.gens...)
		for range 40 {
			h := d.specialHkl(11)
			count, family := d.between(1, 12), impl.Family(g, h)
			obs, kin := []impl.Obs{}, []impl.Obs{}
			for range count {
				i := d.between(-9, 9)
				obs, kin = append(obs, obsOf(h, i)...), append(kin, obsOf(d.kin(family), i)...)
			}
			got, lost := checkMerge(t, g, obs)
			if again, gone := checkMerge(t, g, kin); !slices.Equal(got, again) || lost != gone {
				t.Error(s.name, obs, kin, got, again)
			}
			if impl.Extinct(g, h) {
				extinct++
				if len(got) != 0 || lost != count {
					t.Error(s.name, obs, got, lost)
				}
				continue
			}
			there++
			unique := impl.Unique(g, []impl.Hkl{h})
			if len(got) != 1 || lost != 0 || got[0].Count != count || hkl(got[0].H, got[0].K, got[0].L) != unique[0] {
				t.Error(s.name, obs, got, lost)
			}
		}
	}
	if min(extinct, there) < 100 {
		t.Error("too few of a kind:", extinct, there)
	}
}

// What is merged is what Unique tells of those that are not extinct, in order.
func TestMergeTellsWhatUniqueTells(t *testing.T) {
	var d dice
	for _, s := range spaces() {
		g := mustClose(t, s.gens...)
		obs := d.obsUnder(g, 30, 60, 50)
		there := slices.DeleteFunc(hklsOf(obs), func(h impl.Hkl) bool { return impl.Extinct(g, h) })
		heads := []impl.Hkl{}
		for _, m := range impl.Merge(g, obs) {
			heads = append(heads, hkl(m.H, m.K, m.L))
		}
		if !slices.Equal(heads, impl.Unique(g, there)) || !sortedHkls(heads) {
			t.Error(s.name, obs, heads)
		}
	}
}

// P18: Merge hangs on no order of the observations.
func TestMergeHangsOnNoOrder(t *testing.T) {
	var d dice
	for _, s := range spaces() {
		g := mustClose(t, s.gens...)
		for _, count := range []int{2, 7, 40} {
			obs := d.obsUnder(g, 4, count, 20)
			want, lost := impl.Merge(g, obs), impl.Lost(g, obs)
			for _, other := range [][]impl.Obs{reversedObs(obs), shuffledList(&d, obs), shuffledList(&d, obs), slices.Concat(obs[1:], obs[:1])} {
				if got := impl.Merge(g, other); !slices.Equal(got, want) || impl.Lost(g, other) != lost {
					t.Error(s.name, obs, other, got, want)
				}
			}
		}
	}
	g := spaceGroup(t, "P21")
	obs := append(handObs(), obsAt(1, 0, 0, -3)...)
	want := impl.Merge(g, obs)
	for _, order := range ordersOf(len(obs)) {
		turned := []impl.Obs{}
		for _, i := range order {
			turned = append(turned, obs[i])
		}
		if got := impl.Merge(g, turned); !slices.Equal(got, want) || len(got) != 2 || impl.Lost(g, turned) != 1 {
			t.Error(turned, got)
		}
	}
}

// P18: an order decides nothing of what is refused either.
func TestMergeRefusesInEveryOrder(t *testing.T) {
	g := spaceGroup(t, "P21")
	for _, o := range wrongObs() {
		for place := range len(handObs()) + 1 {
			checkRefused(t, g, slices.Insert(handObs(), place, o))
		}
		checkRefused(t, g, []impl.Obs{o})
		checkRefused(t, g, []impl.Obs{o, o})
		// an extinct one is looked at too
		extinct := obsAt(0, 1, 0, 4)[0]
		checkRefused(t, g, []impl.Obs{extinct, o})
	}
	for _, i := range pastIntensities() {
		checkRefused(t, g, obsAt(0, 1, 0, i))
		checkRefused(t, g, append(handObs(), obsAt(0, 99, 0, i)...))
	}
}

// checkRefused: nothing, -1, and 0 and 0, whatever is asked.
func checkRefused(t *testing.T, g []impl.Op, obs []impl.Obs) {
	t.Helper()
	if got := impl.Merge(g, obs); len(got) != 0 {
		t.Error(obs, got)
	}
	if got := impl.Lost(g, obs); got != -1 {
		t.Error(obs, got)
	}
	for _, asked := range [][]impl.Hkl{nil, {hkl(0, 0, 0)}, {hkl(1, 0, 0), hkl(2, 1, 0)}} {
		if found, all := impl.Complete(g, obs, asked); found != 0 || all != 0 {
			t.Error(obs, asked, found, all)
		}
	}
}

func TestMergeOfWhatIsNoGroup(t *testing.T) {
	for name, no := range notGroups(t) {
		for _, obs := range [][]impl.Obs{nil, {}, handObs(), obsAt(0, 0, 0, 1), wrongObs()[:1]} {
			checkRefused(t, no, obs)
		}
		if t.Failed() {
			t.Fatal(name)
		}
	}
}

// A family of which one would be none is refused, also where it is extinct.
func TestMergeWhereUniqueTellsNothing(t *testing.T) {
	for _, c := range []struct {
		group string
		h     impl.Hkl
		right bool
	}{
		{"P3", hkl(100, 0, 0), true}, {"P3", hkl(99, 1, 100), true}, {"P3", hkl(-50, -50, 7), true}, {"P3", hkl(100, -100, -100), true},
		{"P3", hkl(100, 1, 0), false}, {"P3", hkl(100, 100, 0), false}, {"P3", hkl(-51, -50, 7), false}, {"P3", hkl(-100, -1, 0), false},
		{"a slanting axis", hkl(100, 0, 0), true}, {"a slanting axis", hkl(-1, 99, 0), true}, {"a slanting axis", hkl(-1, 100, 0), false},
		{"R-3m", hkl(100, 0, -100), true}, {"R-3m", hkl(100, 0, -99), true}, {"R-3m", hkl(100, 100, 1), false}, {"R-3m", hkl(100, 100, 0), false},
		{"Fm-3m", hkl(100, -100, 100), true}, {"Fm-3m", hkl(100, 99, 98), true},
	} {
		g := spaceGroup(t, c.group)
		if (len(uniqueByRule(g, []impl.Hkl{c.h})) > 0) != c.right || (len(impl.Unique(g, []impl.Hkl{c.h})) > 0) != c.right {
			t.Error(c)
		}
		for _, obs := range [][]impl.Obs{obsOf(c.h, 5), append(obsAt(0, 0, 0, 3), obsOf(c.h, 5)...), append(obsOf(c.h, 5, 6), obsAt(0, 0, 0, 3)...)} {
			if !c.right {
				checkRefused(t, g, obs)
			} else if _, lost := checkMerge(t, g, obs); lost < 0 {
				t.Error(c, obs)
			}
			found, all := impl.Complete(g, obsAt(0, 0, 0, 1), hklsOf(obs))
			if wantFound, wantAll := completeUnder(g, obsAt(0, 0, 0, 1), hklsOf(obs)); found != wantFound || all != wantAll || !c.right && all != 0 {
				t.Error(c, obs, found, all)
			}
		}
	}
	g := spaceGroup(t, "R-3m")
	if h := hkl(100, 100, 1); !impl.Extinct(g, h) || impl.Lost(g, obsOf(h, 1)) != -1 {
		t.Error("extinct, but Unique tells nothing of it")
	}
}

func TestObsEdges(t *testing.T) {
	numbers := []int64{math.MinInt64, -hklMost - 1, -hklMost, -1, 0, 1, hklMost, hklMost + 1, math.MaxInt64}
	intensities := []int64{math.MinInt64, -intensityMost - 1, -intensityMost, -1, 0, 1, intensityMost, intensityMost + 1, math.MaxInt64}
	for _, name := range []string{"P1", "P21", "Pm-3m"} {
		g := spaceGroup(t, name)
		for place := range 3 {
			for _, n := range numbers {
				for _, i := range intensities {
					three := [3]int64{2, 4, 6}
					three[place] = n
					o := impl.Obs{H: three[0], K: three[1], L: three[2], I: i}
					right := n >= -hklMost && n <= hklMost && i >= -intensityMost && i <= intensityMost
					for _, obs := range [][]impl.Obs{{o}, {o, o}, append(obsAt(2, 4, 6, 1), o), append([]impl.Obs{o}, obsAt(2, 4, 6, 1)...)} {
						if _, lost := checkMerge(t, g, obs); (lost == 0) != right || (lost == -1) == right {
							t.Error(name, obs, lost)
						}
						if (len(impl.Merge(g, obs)) > 0) != right {
							t.Error(name, obs)
						}
					}
				}
			}
		}
	}
}

func TestMergeTakesMaxListAndNoMore(t *testing.T) {
	obs := []impl.Obs{}
	for n := range int64(obsMost) {
		obs = append(obs, impl.Obs{H: n/512 - 4, K: n / 64 % 8, L: n / 8 % 8, I: n*7919%2001 - 1000})
	}
	far := []impl.Obs{}
	for n := range int64(obsMost) {
		far = append(far, impl.Obs{H: 1, I: intensityMost * (1 - n%2*2)})
	}
	for _, name := range []string{"P1", "P21", "Fm-3m"} {
		g := spaceGroup(t, name)
		for _, list := range [][]impl.Obs{obs, far, slices.Repeat(obsAt(0, 2, 0, intensityMost), obsMost), slices.Repeat(obsAt(0, 1, 0, -intensityMost), obsMost)} {
			if _, lost := checkMerge(t, g, list); lost < 0 {
				t.Error(name, lost)
			}
			for _, more := range [][]impl.Obs{append(slices.Clone(list), list[0]), slices.Repeat(list, 5)} {
				checkRefused(t, g, more)
			}
		}
	}
	// the greatest Dev that there can be
	if got := impl.Merge(spaceGroup(t, "P1"), far); !slices.Equal(got, []impl.Merged{mergedOf(1, 0, 0, obsMost, 0, obsMost*obsMost*intensityMost, -intensityMost, intensityMost)}) {
		t.Error(got)
	}
	if got := impl.Lost(spaceGroup(t, "P21"), slices.Repeat(obsAt(0, 1, 0, 1), obsMost)); got != obsMost {
		t.Error(got)
	}
}

func TestFigureByHand(t *testing.T) {
	for _, c := range []struct {
		why          string
		list         []impl.Merged
		above, below int64
		ok           bool
	}{
		{"none", nil, 0, 0, false},
		{"an empty list", []impl.Merged{}, 0, 0, false},
		{"one", []impl.Merged{{Count: 1, Sum: 7}}, 0, 1, true},
		{"one below 0", []impl.Merged{{Count: 1, Sum: -7}}, 0, 1, true},
		{"a Sum of 0 alone", []impl.Merged{{Count: 1}}, 0, 0, false},
		{"Sums of 0 alone", []impl.Merged{{Count: 2, Dev: 16}, {Count: 3, Dev: 6}, {Count: 12}}, 0, 0, false},
		{"a Sum of 0 among others", []impl.Merged{{Count: 2, Dev: 16}, {Count: 1, Sum: 4}}, 2, 1, true},
		{"Sums that are 0 together", []impl.Merged{{Count: 2, Sum: 5, Dev: 4}, {Count: 2, Sum: -5, Dev: 4}}, 2, 5, true},
		{"lowest terms", []impl.Merged{{Count: 2, Sum: 24, Dev: 8}}, 1, 6, true},
		{"lowest terms of two", []impl.Merged{{Count: 2, Sum: 24, Dev: 8}, {Count: 1, Sum: 5}}, 4, 29, true},
		{"a fraction over a fraction", []impl.Merged{{Count: 3, Sum: 5, Dev: 4}}, 4, 15, true},
		{"fractions together", []impl.Merged{{Count: 3, Sum: 1, Dev: 1}, {Count: 6, Sum: 1, Dev: 1}}, 1, 4, true},
		{"above 1", []impl.Merged{{Count: 1, Sum: 2, Dev: 9}}, 9, 2, true},
		{"of 12 and 11", []impl.Merged{{Count: 12, Sum: 1, Dev: 1}, {Count: 11, Sum: 0, Dev: 1}}, 23, 132, true},
		{"of all Counts", []impl.Merged{{Count: 1, Dev: 1}, {Count: 2, Dev: 1}, {Count: 3, Dev: 1}, {Count: 4, Dev: 1}, {Count: 5, Dev: 1}, {Count: 6, Dev: 1}, {Count: 7, Dev: 1}, {Count: 8, Dev: 1}, {Count: 9, Dev: 1}, {Count: 10, Dev: 1}, {Count: 11, Dev: 1}, {Count: 12, Dev: 1, Sum: 1}}, 86021, 27720, true},
		{"the greatest", []impl.Merged{{Count: 1, Sum: -sumMost, Dev: sumMost}}, 1, 1, true},
		{"the greatest over the least", []impl.Merged{{Count: 1, Sum: 1, Dev: sumMost}}, sumMost, 1, true},
		{"the least over the greatest", []impl.Merged{{Count: 11, Sum: sumMost, Dev: 1}}, 1, 11 * sumMost, true},
	} {
		above, below, ok := impl.Figure(c.list)
		if above != c.above || below != c.below || ok != c.ok {
			t.Error(c.why, above, below, ok)
		}
		checkFigure(t, c.list)
	}
}

func checkFigure(t *testing.T, list []impl.Merged) bool {
	t.Helper()
	above, below, ok := impl.Figure(list)
	if wantAbove, wantBelow, want := figureByRule(list); above != wantAbove || below != wantBelow || ok != want {
		t.Error(list, above, below, ok, wantAbove, wantBelow, want)
	}
	return ok
}

func TestFigureByRule(t *testing.T) {
	var d dice
	for _, count := range []int{1, 2, 3, 7, 20, mergedMost - 1, mergedMost} {
		for _, sum := range []int64{1, 2, 12, 1000, sumMost} {
			for _, dev := range []int64{0, 1, 12, 5000, sumMost} {
				for range 8 {
					list := d.mergedList(count, sum, dev)
					checkFigure(t, list)
					for i := range list {
						list[i].Count = 1 + int64(i)%countedMost
						list[i].Sum = -apart(list[i].Sum, 0)
					}
					checkFigure(t, list)
				}
			}
		}
	}
	// the greatest numbers on either side of the stroke
	for count := int64(1); count <= countedMost; count++ {
		for _, m := range []impl.Merged{{Count: count, Sum: sumMost, Dev: sumMost}, {Count: count, Sum: -sumMost, Dev: sumMost - 1}, {Count: count, Sum: sumMost - 1, Dev: sumMost}, {Count: count, Sum: sumMost - 1, Dev: 1}} {
			if !checkFigure(t, slices.Repeat([]impl.Merged{m}, mergedMost)) {
				t.Error(m)
			}
		}
	}
}

// Figure of what Merge tells, held against the mean of each reflection.
func TestFigureOfMerge(t *testing.T) {
	var d dice
	told := 0
	for _, s := range spaces() {
		g := mustClose(t, s.gens...)
		for range 20 {
			list := impl.Merge(g, d.obsUnder(g, 12, 40, d.between(1, 1000)))
			if checkFigure(t, list) {
				told++
			}
		}
	}
	if told < 200 {
		t.Error("too few have a figure:", told)
	}
}

// P18: the Figure of observations that are all alike is 0, whether all of them
// are or those of each reflection.
func TestFigureOfAlikeIsNought(t *testing.T) {
	var d dice
	told := 0
	for _, s := range spaces() {
		g := mustClose(t, s.gens...)
		for _, i := range []int64{1, -1, 7, intensityMost, -intensityMost} {
			obs := d.obsUnder(g, 8, 12, 0)
			each := slices.Clone(obs)
			for n := range obs {
				h := impl.Unique(g, hklsOf(obs[n:n+1]))[0]
				obs[n].I, each[n].I = i, 1+(h.H*h.H+3*h.K*h.K+7*h.L*h.L)%1000
			}
			for _, alike := range [][]impl.Obs{obs, each, obs[:1]} {
				merged := impl.Merge(g, alike)
				above, below, ok := impl.Figure(merged)
				if there := len(merged) > 0; ok != there || above != 0 || there && below != 1 {
					t.Error(s.name, alike, merged, above, below, ok)
				}
				if ok {
					told++
				}
			}
		}
	}
	if told < 200 {
		t.Error("too few have a figure:", told)
	}
	g := spaceGroup(t, "P1")
	if above, below, ok := impl.Figure(impl.Merge(g, obsAt(1, 0, 0, 5, 1, 0, 0, 6))); above != 1 || below != 11 || !ok {
		t.Error("unlike ones have a figure:", above, below, ok)
	}
	if above, below, ok := impl.Figure(impl.Merge(g, obsAt(1, 0, 0, 0, 2, 0, 0, 0))); above != 0 || below != 0 || ok {
		t.Error("alike at 0 there is none:", above, below, ok)
	}
}

func TestFigureRefuses(t *testing.T) {
	good := []impl.Merged{{Count: 2, Sum: 24, Dev: 8}, {Count: 1, Sum: 5}, {Count: 12, Sum: -5, Dev: 1}}
	for _, m := range wrongMerged() {
		for place := range len(good) + 1 {
			list := slices.Insert(slices.Clone(good), place, m)
			if above, below, ok := impl.Figure(list); above != 0 || below != 0 || ok {
				t.Error(list, above, below, ok)
			}
			checkFigure(t, list)
		}
		for _, list := range [][]impl.Merged{{m}, {m, m}} {
			if above, below, ok := impl.Figure(list); above != 0 || below != 0 || ok {
				t.Error(list, above, below, ok)
			}
		}
	}
	// of each number alone the edge, and one past it
	for _, m := range []impl.Merged{{Count: 1, Sum: 1}, {Count: 12, Sum: 1}, {Count: 1, Sum: sumMost}, {Count: 1, Sum: -sumMost}, {Count: 1, Sum: 1, Dev: sumMost}} {
		if above, below, ok := impl.Figure([]impl.Merged{m}); !ok || below < 1 || above < 0 {
			t.Error(m, above, below, ok)
		}
	}
}

func TestFigureTakesMaxMergedAndNoMore(t *testing.T) {
	for count := range mergedMost + 4 {
		list := slices.Repeat([]impl.Merged{{Count: 3, Sum: 10, Dev: 6}}, count)
		above, below, ok := impl.Figure(list)
		if right := count > 0 && count <= mergedMost; ok != right || right && (above != 1 || below != 5) || !right && (above != 0 || below != 0) {
			t.Error(count, above, below, ok)
		}
	}
	if above, below, ok := impl.Figure(make([]impl.Merged, 5000)); above != 0 || below != 0 || ok {
		t.Error(above, below, ok)
	}
}

// What Figure does not reckon with is not looked at.
func TestFigureLooksAtThreeNumbers(t *testing.T) {
	var d dice
	for range 200 {
		m := impl.Merged{H: d.wildNumber(), K: d.wildNumber(), L: d.wildNumber(), Count: 4, Sum: 9, Dev: 6, Least: d.wildNumber(), Most: d.wildNumber()}
		if above, below, ok := impl.Figure([]impl.Merged{m, m}); above != 1 || below != 6 || !ok {
			t.Error(m, above, below, ok)
		}
	}
}

func TestOutliersByHand(t *testing.T) {
	for _, c := range []struct {
		why  string
		list []int64
		most int64
		want []int64
	}{
		{"none", nil, 0, nil},
		{"one", []int64{5}, 0, nil},
		{"two", []int64{-1000, 1000}, 0, nil},
		{"three alike", []int64{4, 4, 4}, 0, nil},
		{"three", []int64{4, 4, 5}, 0, []int64{2}},
		{"three, the first", []int64{5, 4, 4}, 0, []int64{0}},
		{"three, the middle one", []int64{4, 9, 4}, 2, []int64{1}},
		{"below the mean", []int64{4, -9, 4}, 2, []int64{1}},
		{"far enough", []int64{10, 11, 40, 9}, 5, []int64{2}},
		{"not far enough", []int64{10, 11, 40, 9}, 30, nil},
		{"of two as far the last", []int64{0, 10, 20}, 5, []int64{2}},
		{"of two as far the last, the lower one", []int64{20, 10, 0}, 5, []int64{2}},
		{"of four as far the last, and so on", []int64{0, 20, 0, 20}, 5, []int64{1, 3}},
		{"of several alike the last", []int64{9, 0, 9, 0, 0, 0, 0}, 2, []int64{0, 2}},
		{"down to two", []int64{0, 1, 2, 3, 4, 5}, 0, []int64{2, 3, 4, 5}},
		{"down to two in the middle", []int64{0, 7, 2, 8, 20}, 0, []int64{0, 2, 4}},
		{"several, one behind another", []int64{100, 0, 1000, 1, 0}, 10, []int64{0, 2}},
		{"one hides another", []int64{0, 0, 0, 0, 30, 300}, 20, []int64{4, 5}},
		{"just at most * Count", []int64{0, 0, 0, 4}, 3, nil},
		{"one above", []int64{0, 0, 0, 3}, 2, []int64{3}},
		{"one below", []int64{0, 0, 0, 1}, 1, nil},
		{"just at it, below the mean", []int64{0, 0, 0, -4}, 3, nil},
		{"one above, below the mean", []int64{0, 0, 0, -3}, 2, []int64{3}},
		{"just at it, of three", []int64{0, 3, 0}, 2, nil},
		{"one above, of three", []int64{0, 0, 2}, 1, []int64{2}},
		{"just at 0", []int64{7, 7, 7, 7}, 0, nil},
		{"first far, then just at it", []int64{0, 0, 4, 0, 1000}, 3, []int64{4}},
		{"at the edges", []int64{intensityMost, intensityMost, -intensityMost}, intensityMost, []int64{2}},
		{"at the edges, not as far", []int64{intensityMost, 0, -intensityMost}, intensityMost, nil},
		{"at the edges, by one", []int64{intensityMost, 0, -intensityMost}, intensityMost - 1, []int64{2}},
	} {
		list := obsOf(impl.Hkl{}, c.list...)
		if got := impl.Outliers(list, c.most); !slices.Equal(got, c.want) {
			t.Error(c.why, got)
		}
		if got := outliersByRule(list, c.most); !slices.Equal(got, c.want) {
			t.Error(c.why, "by the rule", got)
		}
	}
}

func checkOutliers(t *testing.T, list []impl.Obs, most int64) []int64 {
	t.Helper()
	got := impl.Outliers(list, most)
	if want := outliersByRule(list, most); !slices.Equal(got, want) {
		t.Error(list, most, got, want)
	}
	return got
}

// All lists of few small intensities, so that every tie comes about.
func TestOutliersOfSmallLists(t *testing.T) {
	for n := range 6 {
		for _, heights := range smallSurfaces(n, 3) {
			list := obsOf(impl.Hkl{}, heights...)
			for _, most := range []int64{0, 1, 2} {
				checkOutliers(t, list, most)
			}
		}
	}
	for _, heights := range smallSurfaces(3, 12) {
		for most := range int64(9) {
			checkOutliers(t, obsOf(impl.Hkl{}, heights...), most)
		}
	}
}

func TestOutliersByRule(t *testing.T) {
	var d dice
	counts := map[int]int{}
	turned, toTwo := 0, 0
	for range 40 {
		for _, count := range []int{0, 1, 2, 3, 4, 5, 8, 20, mergedMost - 1, mergedMost} {
			for _, most := range []int64{0, 3, 100, 10000, intensityMost / 2, intensityMost} {
				list := d.intensities(count, []int64{2, 9, 300, intensityMost}[d.between(0, 3)])
				for range d.between(0, 3) {
					if count > 0 {
						list[d.between(0, int64(count-1))].I = d.between(-intensityMost, intensityMost)
					}
				}
				got := checkOutliers(t, list, most)
				counts[min(len(got), 3)]++
				if taken := outliersInTurn(list, most); !slices.IsSorted(taken) {
					turned++
				}
				if len(got) == count-2 && count > 2 {
					toTwo++
				}
			}
		}
	}
	if min(counts[0], counts[1], counts[2], counts[3], turned, toTwo) < 50 {
		t.Error("too few of a kind:", counts, turned, toTwo)
	}
}

// |Count * I - Sum| just at most * Count, one above and one below: all
// intensities but one are alike, so it is (Count - 1) times how far that one is.
func TestOutliersJustThere(t *testing.T) {
	kinds := [3]int{}
	for count := int64(3); count <= mergedMost; count++ {
		for most := range int64(70) {
			for _, by := range []int64{-1, 0, 1} {
				far := most*count + by
				if far < 0 || far%(count-1) != 0 {
					continue
				}
				kinds[1+by]++
				for _, sign := range []int64{1, -1} {
					for _, place := range []int64{0, count / 2, count - 1} {
						list := slices.Repeat(obsAt(0, 0, 0, 50), int(count))
						list[place].I += sign * far / (count - 1)
						want := []int64{}
						if by > 0 {
							want = append(want, place)
						}
						if got := impl.Outliers(list, most); !slices.Equal(got, want) {
							t.Error(list, most, got)
						}
					}
				}
			}
		}
	}
	if slices.Min(kinds[:]) < 50 {
		t.Error("too few of a kind:", kinds)
	}
}

// As long as there are three or more: those that are alike stay, and of those
// that are all unlike two are left where most is 0.
func TestOutliersDownToTwo(t *testing.T) {
	var d dice
	for count := range mergedMost + 1 {
		list := d.intensities(count, intensityMost)
		for i := range list {
			list[i].I = list[i].I/mergedMost*mergedMost + int64(i) - mergedMost
		}
		if got := checkOutliers(t, list, 0); len(got) != max(count-2, 0) {
			t.Error(list, got)
		}
		if got := impl.Outliers(slices.Repeat(obsAt(0, 0, 0, 77), count), 0); len(got) != 0 {
			t.Error(count, got)
		}
	}
}

// Where no two are as far off, no order of the observations decides which
// intensities are taken. Of powers of 3 the greatest is the farthest off.
func TestOutliersOfShuffledLists(t *testing.T) {
	var d dice
	some := 0
	for range 300 {
		list, power := []impl.Obs{}, int64(1)
		for range d.between(3, 13) {
			list, power = append(list, impl.Obs{I: power}), 3*power
		}
		most := []int64{0, 10, 300, 10000, 200000}[d.between(0, 4)]
		taken := func(list []impl.Obs) []int64 {
			out := []int64{}
			for _, number := range impl.Outliers(list, most) {
				out = append(out, list[number].I)
			}
			return slices.Sorted(slices.Values(out))
		}
		other := shuffledList(&d, list)
		if got, want := taken(other), taken(list); !slices.Equal(got, want) {
			t.Error(list, other, got, want)
		} else if len(got) > 1 && len(got) < len(list)-2 {
			some++
		}
		checkOutliers(t, other, most)
	}
	if some < 30 {
		t.Error("too few that leave out some:", some)
	}
}

// The reflection of an observation does not matter, as long as it is one.
func TestOutliersOfAnyReflections(t *testing.T) {
	var d dice
	for range 300 {
		list := d.intensities(int(d.between(0, 9)), 30)
		most := d.between(0, 20)
		want := impl.Outliers(list, most)
		for i := range list {
			h := d.hkl(hklMost)
			list[i].H, list[i].K, list[i].L = h.H, h.K, h.L
		}
		if got := impl.Outliers(list, most); !slices.Equal(got, want) {
			t.Error(list, most, got, want)
		}
	}
}

func TestOutliersRefuses(t *testing.T) {
	list := obsOf(impl.Hkl{}, 10, 11, 40, 9)
	for _, o := range wrongObs() {
		for place := range len(list) + 1 {
			if got := impl.Outliers(slices.Insert(slices.Clone(list), place, o), 5); len(got) != 0 {
				t.Error(o, place, got)
			}
		}
		if got := impl.Outliers([]impl.Obs{o}, 0); len(got) != 0 {
			t.Error(o, got)
		}
	}
	for _, most := range []int64{-1, intensityMost + 1, -intensityMost, 1 << 32, -1 << 32, 1<<32 + 1, math.MaxInt64, math.MinInt64, math.MinInt64 + 1} {
		for _, list := range [][]impl.Obs{nil, list, obsOf(impl.Hkl{}, intensityMost, intensityMost, -intensityMost), slices.Concat(slices.Repeat(obsAt(0, 0, 0, intensityMost), 59), obsAt(0, 0, 0, -intensityMost))} {
			if got := impl.Outliers(list, most); len(got) != 0 {
				t.Error(list, most, got)
			}
		}
	}
	// with so many the last one is as far as MaxI and one more, and past it
	far := slices.Concat(slices.Repeat(obsAt(0, 0, 0, intensityMost), 59), obsAt(0, 0, 0, -intensityMost))
	for _, most := range []int64{0, 1, intensityMost - 1, intensityMost} {
		if got := impl.Outliers(far, most); !slices.Equal(got, []int64{59}) {
			t.Error(most, got)
		}
	}
}

func TestOutliersTakesMaxMergedAndNoMore(t *testing.T) {
	for _, count := range []int{mergedMost - 1, mergedMost, mergedMost + 1, mergedMost + 2, 5000} {
		list := slices.Repeat(obsAt(1, 2, 3, 8), count)
		list[7].I = 5000
		want := []int64{7}
		if count > mergedMost {
			want = nil
		}
		if got := impl.Outliers(list, 100); !slices.Equal(got, want) {
			t.Error(count, got)
		}
	}
}

func TestCompleteByHand(t *testing.T) {
	for _, c := range []struct {
		why, group string
		obs        []impl.Obs
		asked      []impl.Hkl
		found, all int64
	}{
		{"nothing is asked", "P21", handObs(), nil, 0, 0},
		{"an empty list is asked", "P21", handObs(), []impl.Hkl{}, 0, 0},
		{"nothing is seen", "P21", nil, []impl.Hkl{hkl(1, 0, 0), hkl(2, 1, 0)}, 0, 2},
		{"neither", "P21", nil, nil, 0, 0},
		{"some", "P21", handObs(), []impl.Hkl{hkl(1, 0, 0), hkl(-2, -1, 0), hkl(0, 0, 1), hkl(0, 3, 0)}, 2, 3},
		{"all", "P21", handObs(), []impl.Hkl{hkl(1, 0, 0), hkl(2, 1, 0)}, 2, 2},
		{"one of two", "P21", handObs(), []impl.Hkl{hkl(2, 1, 0)}, 1, 1},
		{"none of them", "P21", handObs(), []impl.Hkl{hkl(3, 0, 0), hkl(0, 2, 0)}, 0, 2},
		{"extinct ones alone", "P21", handObs(), []impl.Hkl{hkl(0, 1, 0), hkl(0, -3, 0)}, 0, 0},
		{"extinct ones among them", "P21", handObs(), []impl.Hkl{hkl(0, 1, 0), hkl(1, 0, 0)}, 1, 1},
		{"the same twice", "P21", handObs(), []impl.Hkl{hkl(1, 0, 0), hkl(1, 0, 0), hkl(5, 5, 5), hkl(5, 5, 5)}, 1, 2},
		{"the same twice, as Unique tells", "P21", handObs(), []impl.Hkl{hkl(1, 0, 0), hkl(-1, 0, 0), hkl(2, 1, 0), hkl(-2, 1, 0), hkl(2, -1, 0)}, 2, 2},
		{"all that is seen is extinct", "P21", obsAt(0, 1, 0, 5), []impl.Hkl{hkl(0, 1, 0), hkl(1, 0, 0)}, 0, 1},
		{"seen with 0", "P1", obsAt(1, 1, 1, 0), []impl.Hkl{hkl(-1, -1, -1)}, 1, 1},
		{"not one in this group", "P1", obsAt(1, 1, 1, 0), []impl.Hkl{hkl(1, 1, -1)}, 0, 1},
		{"one in that group", "Pm-3m", obsAt(1, 1, 1, 0), []impl.Hkl{hkl(1, 1, -1)}, 1, 1},
		{"the direct beam", "Fm-3m", obsAt(0, 0, 0, 9), []impl.Hkl{hkl(0, 0, 0), hkl(1, 0, 0)}, 1, 1},
	} {
		g := spaceGroup(t, c.group)
		if found, all := impl.Complete(g, c.obs, c.asked); found != c.found || all != c.all {
			t.Error(c.why, found, all)
		}
		if found, all := completeUnder(g, c.obs, c.asked); found != c.found || all != c.all {
			t.Error(c.why, "by the rule", found, all)
		}
	}
}

func checkComplete(t *testing.T, g []impl.Op, obs []impl.Obs, asked []impl.Hkl) (int64, int64) {
	t.Helper()
	found, all := impl.Complete(g, obs, asked)
	if wantFound, wantAll := completeUnder(g, obs, asked); found != wantFound || all != wantAll {
		t.Error(showAll(g), obs, asked, found, all, wantFound, wantAll)
	}
	return found, all
}

func TestCompleteByRule(t *testing.T) {
	var d dice
	some, whole, none := 0, 0, 0
	for _, s := range spaces() {
		g := mustClose(t, s.gens...)
		for range 12 {
			obs := d.obsUnder(g, 8, int(d.between(0, 25)), 5)
			seen := []impl.Hkl{}
			for _, o := range obs {
				seen = append(seen, d.kin(impl.Family(g, hklOf(o))))
			}
			others := hklsOf(d.obsUnder(g, 6, 9, 0))
			for _, asked := range [][]impl.Hkl{seen, others, slices.Concat(seen, others), slices.Concat(others, seen[:len(seen)/2]), slices.Concat(seen, seen), seen[:len(seen)/2]} {
				found, all := checkComplete(t, g, obs, asked)
				switch {
				case all > 0 && found == all:
					whole++
				case all > 0 && found > 0:
					some++
				case all > 0:
					none++
				}
			}
			// what is asked is all that Merge tells, and it is all there
			if found, all := impl.Complete(g, obs, hklsOf(obs)); found != all || all != int64(len(impl.Merge(g, obs))) {
				t.Error(s.name, obs, found, all)
			}
		}
	}
	if min(some, whole, none) < 100 {
		t.Error("too few of a kind:", some, whole, none)
	}
}

func TestCompleteRefuses(t *testing.T) {
	g := spaceGroup(t, "P21")
	asked := []impl.Hkl{hkl(1, 0, 0), hkl(2, 1, 0), hkl(5, 0, 0)}
	if found, all := impl.Complete(g, handObs(), asked); found != 2 || all != 3 {
		t.Error(found, all)
	}
	for _, h := range wrongHkls() {
		for place := range len(asked) + 1 {
			if found, all := impl.Complete(g, handObs(), slices.Insert(slices.Clone(asked), place, h)); found != 0 || all != 0 {
				t.Error(h, place, found, all)
			}
		}
		if found, all := impl.Complete(g, handObs(), []impl.Hkl{h}); found != 0 || all != 0 {
			t.Error(h, found, all)
		}
	}
	for _, o := range wrongObs() {
		if found, all := impl.Complete(g, append(handObs(), o), asked); found != 0 || all != 0 {
			t.Error(o, found, all)
		}
	}
	// one of the family would be none, and one at the edge
	g = spaceGroup(t, "P3")
	if found, all := impl.Complete(g, obsAt(1, 0, 0, 5), []impl.Hkl{hkl(1, 0, 0), hkl(100, 1, 0)}); found != 0 || all != 0 {
		t.Error(found, all)
	}
	if found, all := impl.Complete(g, obsAt(1, 0, 0, 5), []impl.Hkl{hkl(1, 0, 0), hkl(100, 0, 0)}); found != 1 || all != 2 {
		t.Error(found, all)
	}
}

func TestCompleteTakesMaxListAndNoMore(t *testing.T) {
	asked := []impl.Hkl{}
	for n := range int64(obsMost) {
		asked = append(asked, hkl(1+n/256, n/16%16, n%16))
	}
	for _, name := range []string{"P1", "P21", "Fm-3m"} {
		g := spaceGroup(t, name)
		obs := append(obsAt(1, 0, 0, 5, 2, 2, 2, 6, 0, 1, 0, 9), obsOf(asked[77], 3)...)
		if found, all := checkComplete(t, g, obs, asked); found == 0 || all < 100 {
			t.Error(name, found, all)
		}
		for _, more := range [][]impl.Hkl{append(slices.Clone(asked), asked[0]), slices.Repeat([]impl.Hkl{hkl(2, 2, 2)}, obsMost+1), slices.Repeat(asked, 3)} {
			if found, all := impl.Complete(g, obs, more); found != 0 || all != 0 {
				t.Error(name, len(more), found, all)
			}
		}
		if found, all := impl.Complete(g, obs, slices.Repeat([]impl.Hkl{hkl(2, 2, 2)}, obsMost)); found != 1 || all != 1 {
			t.Error(name, found, all)
		}
		if found, all := impl.Complete(g, slices.Repeat(obs[:1], obsMost+1), asked); found != 0 || all != 0 {
			t.Error(name, found, all)
		}
	}
}

// withSpare is the same list in memory that goes on behind it; guard tells
// whether all of it is as it was.
func withSpare[T comparable](list []T, behind ...T) ([]T, func() bool) {
	room := slices.Concat(list, behind)
	want := slices.Clone(room)
	return room[:len(list)], func() bool { return slices.Equal(room, want) }
}

func TestMergeArgumentsStay(t *testing.T) {
	var d dice
	for _, name := range []string{"P1", "P21", "R-3m", "Fm-3m"} {
		g, guardG := withRoom(spaceGroup(t, name))
		wrong, guardWrong := withRoom([]impl.Op{g[0], g[0], {}, {M: []int64{1}, T: []int64{2, 3}}})
		for _, obs := range [][]impl.Obs{nil, handObs(), d.obsUnder(g, 5, 30, 90), append(handObs(), wrongObs()[0]), append(handObs(), wrongObs()[30:]...)} {
			given, guardObs := withSpare(obs, impl.Obs{H: 3, I: 4}, impl.Obs{H: 101})
			asked, guardAsked := withSpare(hklsOf(obs), hkl(9, 9, 9), hkl(101, 0, 0))
			for _, ops := range [][]impl.Op{g, wrong} {
				merged, guardMerged := withSpare(impl.Merge(ops, given), impl.Merged{Count: 5, Sum: 5}, impl.Merged{Count: -1})
				impl.Lost(ops, given)
				impl.Complete(ops, given, asked)
				impl.Figure(merged)
				if !guardMerged() {
					t.Error(name, merged)
				}
			}
			spoilNumbers(impl.Outliers(given, 3))
			spare := impl.Merge(g, given)
			for i := range spare[:cap(spare)] {
				spare[:cap(spare)][i] = impl.Merged{H: -9}
			}
			if !guardG() || !guardWrong() || !guardObs() || !guardAsked() {
				t.Error(name, obs)
			}
		}
	}
}

// What lies behind a list's length is not of it.
func TestMergeLeavesOutWhatLiesBehind(t *testing.T) {
	g := spaceGroup(t, "P21")
	obs := append(handObs(), impl.Obs{H: 101})
	if got := impl.Merge(g, obs[:1]); !slices.Equal(got, []impl.Merged{mergedOf(1, 0, 0, 1, 10, 0, 10, 10)}) {
		t.Error(got)
	}
	if got := impl.Lost(g, obs[:3]); got != 1 {
		t.Error(got)
	}
	if got := impl.Merge(g, obs[:0]); len(got) != 0 || impl.Lost(g, obs[:0]) != 0 {
		t.Error(got)
	}
	list := []impl.Merged{{Count: 1, Sum: 2, Dev: 1}, {Count: 1, Sum: 2}, {Count: -1}}
	if above, below, ok := impl.Figure(list[:1]); above != 1 || below != 2 || !ok {
		t.Error(above, below, ok)
	}
	far := obsOf(impl.Hkl{}, 1, 1, 9, 1, 500)
	if got := impl.Outliers(far[:4], 3); !slices.Equal(got, []int64{2}) {
		t.Error(got)
	}
	asked := []impl.Hkl{hkl(1, 0, 0), hkl(9, 0, 0), hkl(101, 0, 0)}
	if found, all := impl.Complete(g, obs[:4], asked[:2]); found != 1 || all != 2 {
		t.Error(found, all)
	}
	if got := impl.Merge(append(slices.Clone(g), impl.Op{})[:len(g)], obs[:4]); len(got) != 2 {
		t.Error(got)
	}
}

func TestMergeAnswersAreNewMemory(t *testing.T) {
	g := spaceGroup(t, "P21")
	obs := handObs()
	checkNewList(t, "Merge", func() []impl.Merged { return impl.Merge(g, obs) })
	checkNewList(t, "Merge", func() []impl.Merged { return impl.Merge(g, obs[:1]) })
	far := obsOf(impl.Hkl{}, 100, 0, 1000, 1, 0)
	checkNewList(t, "Outliers", func() []int64 { return impl.Outliers(far, 10) })
	if !shareNothing([][]int64{impl.Outliers(far, 10), impl.Outliers(far, 10)}) {
		t.Error("two lists share memory")
	}
}

// Every call answers the same, one behind the other and all at once, whatever
// was merged ahead.
func TestMergeAnswersTheSame(t *testing.T) {
	names := []string{"P1", "P21", "Pnma", "R-3m", "P6122", "Im-3m"}
	var all sync.WaitGroup
	for start := range 8 {
		g := spaceGroup(t, names[start%len(names)])
		all.Go(func() {
			d := dice(start)
			obs, other := d.obsUnder(g, 6, 40, 50), d.obsUnder(g, 3, 9, 50)
			asked := slices.Concat(hklsOf(other), hklsOf(obs[:9]))
			merged, lost := mergeUnder(g, obs)
			above, below, ok := figureByRule(merged)
			found, wanted := completeUnder(g, obs, asked)
			out := outliersByRule(obs, 30)
			for range 10 {
				impl.Merge(g, other)
				impl.Merge(g, append(slices.Clone(other), impl.Obs{H: 101}))
				if !slices.Equal(impl.Merge(g, obs), merged) || impl.Lost(g, obs) != lost {
					t.Error(start, obs)
				}
				if a, b, c := impl.Figure(merged); a != above || b != below || c != ok {
					t.Error(start, a, b, c)
				}
				if a, b := impl.Complete(g, obs, asked); a != found || b != wanted {
					t.Error(start, a, b)
				}
				if !slices.Equal(impl.Outliers(obs, 30), out) {
					t.Error(start, obs)
				}
			}
		})
	}
	all.Wait()
}

func (d *dice) wildObs() []impl.Obs {
	out := []impl.Obs{}
	for range d.between(0, 9) {
		out = append(out, obsOf(d.specialHkl([]int64{2, 2, 5, hklMost}[d.between(0, 3)]), d.between(-40, 40))...)
	}
	if len(out) == 0 {
		return out
	}
	o := &out[d.between(0, int64(len(out)-1))]
	switch d.between(0, 12) {
	case 0:
		o.H = d.wildNumber()
	case 1:
		o.K = d.wildNumber()
	case 2:
		o.L = d.wildNumber()
	case 3, 4:
		o.I = d.wildNumber()
	case 5:
		o.I = []int64{-intensityMost - 1, -intensityMost, intensityMost, intensityMost + 1}[d.between(0, 3)]
	}
	return out
}

func (d *dice) wildMerged() []impl.Merged {
	out := d.mergedList(int(d.between(0, 6)), []int64{0, 3, sumMost + 1}[d.between(0, 2)], d.between(0, 30))
	if d.between(0, 20) == 0 {
		out = d.mergedList(int(d.between(mergedMost-1, mergedMost+2)), 9, 9)
	}
	if len(out) == 0 {
		return out
	}
	m := &out[d.between(0, int64(len(out)-1))]
	switch d.between(0, 9) {
	case 0:
		m.Count = d.wildNumber()
	case 1:
		m.Sum = d.wildNumber()
	case 2:
		m.Dev = d.wildNumber()
	}
	return out
}

func TestMergeAnswersAtEveryArgument(t *testing.T) {
	var d dice
	kinds := [8]int{}
	tell := func(kind int, right bool) {
		if right {
			kind++
		}
		kinds[kind]++
	}
	for range 6000 {
		g := []impl.Op{}
		for range d.between(0, 4) {
			g = append(g, d.wildOp())
		}
		if d.between(0, 4) > 0 {
			g, _ = impl.Close(g[:min(len(g), 1)])
		}
		obs, asked := d.wildObs(), hklsOf(d.wildObs())
		want, wantLost := mergeByRule(g, obs)
		if got, lost := impl.Merge(g, obs), impl.Lost(g, obs); !slices.Equal(got, want) || lost != wantLost {
			t.Fatal(g, obs, got, lost, want, wantLost)
		}
		tell(0, wantLost >= 0)
		if wantLost >= 0 {
			_, all := checkComplete(t, g, obs, asked)
			tell(2, all > 0)
		} else if found, all := impl.Complete(g, obs, asked); found != 0 || all != 0 {
			t.Fatal(g, obs, asked, found, all)
		}
		tell(4, checkFigure(t, d.wildMerged()))
		most := d.between(0, 40)
		if d.between(0, 9) == 0 {
			most = d.wildNumber()
		}
		tell(6, len(checkOutliers(t, d.wildObs(), most)) > 0)
	}
	if slices.Min(kinds[:]) < 300 {
		t.Error("too few of a kind:", kinds)
	}
}
