package tests

import (
	"math/cmplx"
	"slices"
	"testing"

	"loop.example/g00055/impl"
)

func at(x, y, z int64) impl.Point { return impl.Point{X: x, Y: y, Z: z} }

func hkl(h, k, l int64) impl.Hkl { return impl.Hkl{H: h, K: k, L: l} }

func spaceGroup(t *testing.T, name string) []impl.Op {
	t.Helper()
	for _, s := range spaces() {
		if s.name == name {
			return mustClose(t, s.gens...)
		}
	}
	t.Fatal(name)
	return nil
}

func TestActByHand(t *testing.T) {
	for _, c := range []struct {
		op       string
		from, to impl.Point
	}{
		{"x,y,z", at(0, 0, 0), at(0, 0, 0)},
		{"x,y,z", at(23, 23, 23), at(23, 23, 23)},
		{"-x,-y,-z", at(0, 0, 0), at(0, 0, 0)},
		{"-x,-y,-z", at(3, 12, 0), at(21, 12, 0)},
		{"-x,-y,-z", at(23, 1, 2), at(1, 23, 22)},
		{"x+1/24,y,z", at(23, 5, 6), at(0, 5, 6)},
		{"x+23/24,y+23/24,z+23/24", at(23, 23, 0), at(22, 22, 23)},
		{"-x,y+1/2,-z", at(1, 12, 3), at(23, 0, 21)},
		{"z,x,y", at(1, 2, 3), at(3, 1, 2)},
		{"-y,x,z+1/4", at(1, 2, 20), at(22, 1, 2)},
		{"-y,x-y,z+1/3", at(5, 7, 20), at(17, 22, 4)},
		{"x+y+z,y+z,z", at(23, 23, 23), at(21, 22, 23)},
		{"-x-y-z,-y-z,-z", at(23, 23, 23), at(3, 2, 1)},
	} {
		if got, ok := impl.Act(mustOp(t, c.op), c.from); !ok || got != c.to {
			t.Error(c, got, ok)
		}
	}
}

func TestActByRule(t *testing.T) {
	var d dice
	for _, o := range rightOps() {
		for _, p := range []impl.Point{d.point(), at(0, 0, 0), at(23, 23, 23)} {
			if got, ok := impl.Act(o, p); !ok || got != actByRule(o, p) {
				t.Fatal(o, p, got, ok)
			}
		}
	}
}

func TestActRefuses(t *testing.T) {
	for _, o := range wrongOps() {
		for _, p := range []impl.Point{at(0, 0, 0), at(1, 2, 3)} {
			if got, ok := impl.Act(o, p); ok || got != (impl.Point{}) {
				t.Error(o, p, got, ok)
			}
		}
	}
	for _, p := range wrongPoints() {
		for _, o := range append(mustOps(t, "x,y,z", "-x,-y,-z", "y,z,x+1/24"), wrongOps()[:3]...) {
			if got, ok := impl.Act(o, p); ok || got != (impl.Point{}) {
				t.Error(o, p, got, ok)
			}
		}
	}
}

func TestOrbitByHand(t *testing.T) {
	for _, c := range []struct {
		group string
		p     impl.Point
		want  []impl.Point
	}{
		{"P1", at(0, 0, 0), []impl.Point{at(0, 0, 0)}},
		{"P1", at(23, 0, 23), []impl.Point{at(23, 0, 23)}},
		{"P-1", at(0, 12, 0), []impl.Point{at(0, 12, 0)}},
		{"P-1", at(21, 12, 0), []impl.Point{at(3, 12, 0), at(21, 12, 0)}},
		{"P21", at(1, 2, 3), []impl.Point{at(1, 2, 3), at(23, 14, 21)}},
		{"P21/c", at(0, 0, 0), []impl.Point{at(0, 0, 0), at(0, 12, 12)}},
		{"P21/c", at(1, 2, 3), []impl.Point{at(1, 2, 3), at(1, 10, 15), at(23, 14, 9), at(23, 22, 21)}},
		{"P41", at(0, 0, 1), []impl.Point{at(0, 0, 1), at(0, 0, 7), at(0, 0, 13), at(0, 0, 19)}},
		{"P3", at(8, 16, 5), []impl.Point{at(8, 16, 5)}},
		{"P31", at(1, 0, 0), []impl.Point{at(0, 1, 8), at(1, 0, 0), at(23, 23, 16)}},
		{"Pm-3m", at(0, 0, 0), []impl.Point{at(0, 0, 0)}},
		{"Pm-3m", at(12, 0, 0), []impl.Point{at(0, 0, 12), at(0, 12, 0), at(12, 0, 0)}},
		{"Pm-3m", at(0, 23, 0), []impl.Point{at(0, 0, 1), at(0, 0, 23), at(0, 1, 0), at(0, 23, 0), at(1, 0, 0), at(23, 0, 0)}},
		{"Fm-3m", at(12, 12, 12), []impl.Point{at(0, 0, 12), at(0, 12, 0), at(12, 0, 0), at(12, 12, 12)}},
		{"Fd-3m", at(3, 3, 3), []impl.Point{at(3, 3, 3), at(3, 15, 15), at(9, 9, 21), at(9, 21, 9), at(15, 3, 15), at(15, 15, 3), at(21, 9, 9), at(21, 21, 21)}},
	} {
		if got := impl.Orbit(spaceGroup(t, c.group), c.p); !slices.Equal(got, c.want) {
			t.Error(c.group, c.p, got)
		}
	}
}

// The books tell of each group's points how many there are of a kind.
func TestOrbitHasAsManyPointsAsTheBooksTell(t *testing.T) {
	for _, c := range []struct {
		group string
		p     impl.Point
		want  int
	}{
		{"Pnma", at(0, 0, 0), 4}, {"Pnma", at(0, 0, 12), 4}, {"Pnma", at(1, 6, 2), 4}, {"Pnma", at(1, 2, 3), 8},
		{"I41/amd", at(0, 18, 3), 4}, {"I41/amd", at(0, 0, 0), 8}, {"I41/amd", at(1, 2, 5), 32},
		{"R-3m", at(0, 0, 0), 3}, {"R-3m", at(0, 0, 12), 3}, {"R-3m", at(0, 0, 1), 6}, {"R-3m", at(12, 0, 0), 9}, {"R-3m", at(1, 23, 2), 18}, {"R-3m", at(1, 3, 2), 36},
		{"P63/mmc", at(8, 16, 6), 2}, {"P63/mmc", at(0, 0, 0), 2}, {"P63/mmc", at(8, 16, 1), 4}, {"P63/mmc", at(1, 2, 6), 6}, {"P63/mmc", at(1, 5, 2), 24},
		{"Fm-3m", at(0, 0, 0), 4}, {"Fm-3m", at(6, 6, 6), 8}, {"Fm-3m", at(0, 6, 6), 24}, {"Fm-3m", at(1, 0, 0), 24}, {"Fm-3m", at(1, 1, 1), 32},
		{"Fm-3m", at(1, 6, 6), 48}, {"Fm-3m", at(0, 1, 1), 48}, {"Fm-3m", at(0, 1, 2), 96}, {"Fm-3m", at(1, 1, 2), 96}, {"Fm-3m", at(1, 2, 3), 192},
		{"Fd-3m", at(3, 3, 3), 8}, {"Fd-3m", at(0, 0, 0), 16}, {"Fd-3m", at(12, 12, 12), 16}, {"Fd-3m", at(1, 1, 1), 32}, {"Fd-3m", at(1, 3, 3), 48},
		{"Fd-3m", at(1, 1, 2), 96}, {"Fd-3m", at(0, 1, 23), 96}, {"Fd-3m", at(1, 2, 7), 192},
		{"Ia-3d", at(0, 0, 0), 16}, {"Ia-3d", at(3, 3, 3), 16}, {"Ia-3d", at(3, 0, 6), 24}, {"Ia-3d", at(1, 1, 1), 32}, {"Ia-3d", at(1, 0, 6), 48}, {"Ia-3d", at(1, 2, 4), 96},
		{"shifts alone", at(5, 6, 7), 192},
		{"a slanting axis", at(0, 5, 12), 1}, {"a slanting axis", at(12, 5, 0), 2},
	} {
		if got := impl.Orbit(spaceGroup(t, c.group), c.p); len(got) != c.want {
			t.Error(c, len(got))
		}
	}
}

// checkOrbit holds all that P7 says of one point, and the rules.
func checkOrbit(t *testing.T, g []impl.Op, p impl.Point) {
	t.Helper()
	orbit, stay := impl.Orbit(g, p), impl.Stabiliser(g, p)
	if !slices.Equal(orbit, orbitByRule(g, p)) || !sameOps(stay, stabiliserByRule(g, p)) {
		t.Fatal(showAll(g), p, orbit, showAll(stay))
	}
	if len(orbit)*len(stay) != len(g) || !impl.GroupOk(stay) {
		t.Fatal(showAll(g), p, len(orbit), len(stay))
	}
	for _, q := range orbit {
		if first, ok := impl.Asymmetric(g, q); !ok || first != orbit[0] {
			t.Fatal(showAll(g), p, q, first, ok)
		}
	}
}

func TestOrbitsOfKnownGroups(t *testing.T) {
	var d dice
	for _, s := range spaces() {
		g := mustClose(t, s.gens...)
		for _, p := range []impl.Point{at(0, 0, 0), at(23, 23, 23), at(1, 2, 4), d.special(), d.special(), d.point()} {
			checkOrbit(t, g, p)
		}
	}
}

func TestOrbitsOfManyGroups(t *testing.T) {
	var d dice
	list := rightOps()
	draws := []func() impl.Op{d.frame, d.six, func() impl.Op { return list[d.between(0, int64(len(list)-1))] }}
	groups := 0
	for i := range 300 {
		gens := []impl.Op{}
		for range d.between(1, 2) {
			o := draws[i%len(draws)]()
			for k := range o.T {
				o.T[k] = o.T[k] / 12 * 12
			}
			gens = append(gens, o)
		}
		g, ok := impl.Close(gens)
		if !ok {
			continue
		}
		groups++
		checkOrbit(t, g, d.point())
		checkOrbit(t, g, d.special())
	}
	if groups < 70 {
		t.Error("too few were groups:", groups)
	}
}

func TestStabiliserByHand(t *testing.T) {
	for _, c := range []struct {
		group string
		p     impl.Point
		want  string
	}{
		{"P1", at(1, 2, 3), "x,y,z"},
		{"P-1", at(1, 2, 3), "x,y,z"},
		{"P-1", at(12, 12, 0), "-x,-y,-z ; x,y,z"},
		{"P21", at(0, 0, 0), "x,y,z"},
		{"P2", at(0, 7, 12), "-x,y,-z ; x,y,z"},
		{"C2/c", at(0, 5, 6), "-x,y,-z+1/2 ; x,y,z"},
		{"C2/c", at(6, 6, 0), "-x+1/2,-y+1/2,-z ; x,y,z"},
		{"P3", at(16, 8, 1), "-x+y,-x,z ; -y,x-y,z ; x,y,z"},
		{"Fm-3m", at(0, 6, 6), "-x,-y+1/2,-z+1/2 ; -x,-z+1/2,-y+1/2 ; -x,z,y ; -x,y,z ; x,-y+1/2,-z+1/2 ; x,-z+1/2,-y+1/2 ; x,z,y ; x,y,z"},
	} {
		if got := impl.Stabiliser(spaceGroup(t, c.group), c.p); showAll(got) != c.want {
			t.Error(c.group, c.p, showAll(got))
		}
	}
	for _, s := range spaces() {
		g := mustClose(t, s.gens...)
		if got := impl.Stabiliser(impl.PointGroup(g), at(0, 0, 0)); !sameOps(got, impl.PointGroup(g)) {
			t.Error(s.name, showAll(got))
		}
	}
}

func TestAsymmetricByHand(t *testing.T) {
	for _, c := range []struct {
		group   string
		p, want impl.Point
	}{
		{"P1", at(23, 22, 21), at(23, 22, 21)},
		{"P-1", at(23, 22, 21), at(1, 2, 3)},
		{"P-1", at(0, 13, 1), at(0, 11, 23)},
		{"P-1", at(0, 12, 13), at(0, 12, 11)},
		{"P21", at(12, 13, 14), at(12, 1, 10)},
		{"Fm-3m", at(12, 12, 0), at(0, 0, 0)},
		{"Fm-3m", at(18, 6, 18), at(6, 6, 6)},
		{"Fm-3m", at(15, 22, 1), at(1, 2, 9)},
		{"shifts alone", at(23, 23, 23), at(0, 2, 23)},
	} {
		if got, ok := impl.Asymmetric(spaceGroup(t, c.group), c.p); !ok || got != c.want {
			t.Error(c, got, ok)
		}
	}
}

func TestSitesByHand(t *testing.T) {
	for _, c := range []struct {
		group string
		want  []impl.Site
	}{
		{"P1", []impl.Site{{Count: 13824, Rank: 1}}},
		{"P-1", []impl.Site{{Count: 8, Rank: 1}, {Count: 13816, Rank: 2}}},
		{"P2", []impl.Site{{Count: 96, Rank: 1}, {Count: 13728, Rank: 2}}},
		{"P21", []impl.Site{{Count: 13824, Rank: 2}}},
		{"Pm", []impl.Site{{Count: 1152, Rank: 1}, {Count: 12672, Rank: 2}}},
		{"P21/c", []impl.Site{{Count: 8, Rank: 2}, {Count: 13816, Rank: 4}}},
		{"P212121", []impl.Site{{Count: 13824, Rank: 4}}},
		{"P3", []impl.Site{{Count: 72, Rank: 1}, {Count: 13752, Rank: 3}}},
		{"shifts alone", []impl.Site{{Count: 13824, Rank: 192}}},
		{"Pm-3m", []impl.Site{
			{Count: 2, Rank: 1}, {Count: 6, Rank: 3}, {Count: 132, Rank: 6}, {Count: 88, Rank: 8},
			{Count: 396, Rank: 12}, {Count: 5280, Rank: 24}, {Count: 7920, Rank: 48},
		}},
	} {
		if got := impl.Sites(spaceGroup(t, c.group)); !slices.Equal(got, c.want) {
			t.Error(c.group, got)
		}
	}
}

func checkSites(t *testing.T, g []impl.Op) {
	t.Helper()
	sites := impl.Sites(g)
	if !slices.Equal(sites, sitesByRule(g)) {
		t.Fatal(showAll(g), sites)
	}
	sum := int64(0)
	for _, s := range sites {
		sum += s.Count
		if s.Count%s.Rank != 0 || int64(len(g))%s.Rank != 0 {
			t.Error(showAll(g), s)
		}
	}
	if sum != 13824 {
		t.Error(showAll(g), sum)
	}
}

func TestSitesByRule(t *testing.T) {
	for _, s := range spaces() {
		checkSites(t, mustClose(t, s.gens...))
	}
	var d dice
	list := rightOps()
	groups := 0
	for range 400 {
		g, ok := impl.Close([]impl.Op{list[d.between(0, int64(len(list)-1))]})
		if ok && len(g) <= 24 && groups < 40 {
			groups++
			checkSites(t, g)
		}
	}
	if groups < 10 {
		t.Error("too few were groups:", groups)
	}
}

func TestSitesOfAPointAreAsItsOrbit(t *testing.T) {
	for _, name := range []string{"P-1", "P6122", "P63/mmc", "Pnma"} {
		g := spaceGroup(t, name)
		counts := map[int64]int64{}
		for n := range int64(13824) {
			if n%7 == 0 {
				counts[int64(len(impl.Orbit(g, at(n/576, n/24%24, n%24))))]++
			}
		}
		for _, s := range impl.Sites(g) {
			if counts[s.Rank] > s.Count {
				t.Error(name, s, counts)
			}
			delete(counts, s.Rank)
		}
		if len(counts) != 0 {
			t.Error(name, counts)
		}
	}
}

// The books tell when a reflection is there; here, for each group, the rule.
func TestExtinctAsTheBooksTell(t *testing.T) {
	even := func(n int64) bool { return n%2 == 0 }
	for name, there := range map[string]func(h, k, l int64) bool{
		"P1":  func(h, k, l int64) bool { return true },
		"P-1": func(h, k, l int64) bool { return true },
		"Pm":  func(h, k, l int64) bool { return true },
		"P3":  func(h, k, l int64) bool { return true },
		"P21": func(h, k, l int64) bool { return h != 0 || l != 0 || even(k) },
		"P41": func(h, k, l int64) bool { return h != 0 || k != 0 || l%4 == 0 },
		"P31": func(h, k, l int64) bool { return h != 0 || k != 0 || l%3 == 0 },
		"P6122": func(h, k, l int64) bool {
			return h != 0 || k != 0 || l%6 == 0
		},
		"P63/mmc": func(h, k, l int64) bool {
			return (h != k && h != -2*k && k != -2*h || even(l)) && (h != 0 || k != 0 || even(l))
		},
		"P212121": func(h, k, l int64) bool {
			return (k != 0 || l != 0 || even(h)) && (h != 0 || l != 0 || even(k)) && (h != 0 || k != 0 || even(l))
		},
		"P21/c": func(h, k, l int64) bool { return (k != 0 || even(l)) && (h != 0 || l != 0 || even(k)) },
		"C2/c":  func(h, k, l int64) bool { return even(h+k) && (k != 0 || even(l)) },
		"Pnma": func(h, k, l int64) bool {
			return (h != 0 || even(k+l)) && (l != 0 || even(h)) && (h != 0 || l != 0 || even(k)) && (h != 0 || k != 0 || even(l))
		},
		"R-3m":  func(h, k, l int64) bool { return (-h+k+l)%3 == 0 },
		"Im-3m": func(h, k, l int64) bool { return even(h + k + l) },
		"Fm-3m": func(h, k, l int64) bool { return even(h+k) && even(k+l) },
		"I41/amd": func(h, k, l int64) bool {
			slanting := h != k && h != -k || (2*h+l)%4 == 0
			return even(h+k+l) && (l != 0 || even(h)) && slanting
		},
	} {
		g := spaceGroup(t, name)
		for h := int64(-4); h <= 4; h++ {
			for k := int64(-4); k <= 4; k++ {
				for l := int64(-6); l <= 6; l++ {
					if got := impl.Extinct(g, hkl(h, k, l)); got == there(h, k, l) {
						t.Error(name, h, k, l, got)
					}
				}
			}
		}
	}
}

func TestExtinctByHand(t *testing.T) {
	for _, c := range []struct {
		group string
		h     impl.Hkl
		want  bool
	}{
		{"P21", hkl(0, 3, 0), true}, {"P21", hkl(0, -99, 0), true}, {"P21", hkl(0, 100, 0), false}, {"P21", hkl(1, 3, 0), false},
		{"P21", hkl(0, 0, 0), false}, {"Fm-3m", hkl(0, 0, 0), false}, {"shifts alone", hkl(0, 0, 0), false},
		{"Fd-3m", hkl(2, 0, 0), true}, {"Fd-3m", hkl(4, 0, 0), false}, {"Fd-3m", hkl(0, 2, 4), true}, {"Fd-3m", hkl(0, 2, 2), false},
		{"Fd-3m", hkl(0, 4, 4), false}, {"Fd-3m", hkl(2, 2, 2), false}, {"Fd-3m", hkl(1, 1, 1), false}, {"Fd-3m", hkl(1, 1, 0), true},
		{"Ia-3d", hkl(2, 0, 0), true}, {"Ia-3d", hkl(4, 0, 0), false}, {"Ia-3d", hkl(2, 1, 1), false}, {"Ia-3d", hkl(1, 1, 0), true},
		{"Ia-3d", hkl(2, 2, 0), false}, {"Ia-3d", hkl(2, 2, 2), true}, {"Ia-3d", hkl(3, 1, 0), true}, {"Ia-3d", hkl(2, 4, 0), false},
		{"R-3m", hkl(100, 100, 1), true}, {"R-3m", hkl(100, 100, 0), false}, {"R-3m", hkl(-100, 100, 100), false}, {"R-3m", hkl(-100, -100, -100), true},
		{"shifts alone", hkl(24, 8, 100), false}, {"shifts alone", hkl(25, 8, 0), true}, {"shifts alone", hkl(24, -1, 0), true},
		{"shifts alone", hkl(-96, 96, -100), false}, {"shifts alone", hkl(12, 0, 0), true},
	} {
		if got := impl.Extinct(spaceGroup(t, c.group), c.h); got != c.want {
			t.Error(c, got)
		}
	}
}

func TestFamilyByHand(t *testing.T) {
	for _, c := range []struct {
		group string
		h     impl.Hkl
		want  []impl.Shift
	}{
		{"P1", hkl(1, -2, 3), []impl.Shift{{H: 1, K: -2, L: 3}}},
		{"P1", hkl(100, -100, 100), []impl.Shift{{H: 100, K: -100, L: 100}}},
		{"P-1", hkl(1, -2, 3), []impl.Shift{{H: -1, K: 2, L: -3}, {H: 1, K: -2, L: 3}}},
		{"P-1", hkl(0, 0, 0), []impl.Shift{{}}},
		{"Fd-3m", hkl(0, 0, 0), []impl.Shift{{}}},
		{"P21", hkl(1, 3, 2), []impl.Shift{{H: -1, K: 3, L: -2, Phase: 12}, {H: 1, K: 3, L: 2}}},
		{"P21", hkl(1, -3, 2), []impl.Shift{{H: -1, K: -3, L: -2, Phase: 12}, {H: 1, K: -3, L: 2}}},
		{"P21", hkl(1, 2, 2), []impl.Shift{{H: -1, K: 2, L: -2}, {H: 1, K: 2, L: 2}}},
		// Extinct: the first Op is not the one that does nothing.
		{"P21", hkl(0, 3, 0), []impl.Shift{{K: 3, Phase: 12}}},
		{"P41", hkl(1, 2, 1), []impl.Shift{{H: -2, K: 1, L: 1, Phase: 18}, {H: -1, K: -2, L: 1, Phase: 12}, {H: 1, K: 2, L: 1}, {H: 2, K: -1, L: 1, Phase: 6}}},
		{"P41", hkl(1, 2, -1), []impl.Shift{{H: -2, K: 1, L: -1, Phase: 6}, {H: -1, K: -2, L: -1, Phase: 12}, {H: 1, K: 2, L: -1}, {H: 2, K: -1, L: -1, Phase: 18}}},
		{"P31", hkl(1, 0, 1), []impl.Shift{{H: -1, K: 1, L: 1, Phase: 16}, {K: -1, L: 1, Phase: 8}, {H: 1, L: 1}}},
		{"P41", hkl(0, 0, 3), []impl.Shift{{L: 3, Phase: 12}}},
		{"a slanting axis", hkl(1, 3, 4), []impl.Shift{{H: 1, K: 3, L: 4}, {H: 2, K: 3, L: -4}}},
	} {
		if got := impl.Family(spaceGroup(t, c.group), c.h); !slices.Equal(got, c.want) {
			t.Error(c.group, c.h, got)
		}
	}
	for name, want := range map[string]int{"Fm-3m": 48, "Fd-3m": 48, "P6/mmm": 24, "R-3m": 12, "shifts alone": 1} {
		if got := impl.Family(spaceGroup(t, name), hkl(1, 2, 4)); len(got) != want {
			t.Error(name, got)
		}
	}
}

func TestFamilyOfWhichOneWouldBeNone(t *testing.T) {
	for _, c := range []struct {
		group string
		h     impl.Hkl
		want  int
	}{
		{"P3", hkl(100, 0, 0), 3}, {"P3", hkl(99, 1, 100), 3}, {"P3", hkl(-50, -50, 7), 3}, {"P3", hkl(100, -100, -100), 3},
		{"P3", hkl(100, 1, 0), 0}, {"P3", hkl(100, 100, 0), 0}, {"P3", hkl(-51, -50, 7), 0}, {"P3", hkl(-100, -1, 0), 0},
		{"a slanting axis", hkl(100, 0, 0), 2}, {"a slanting axis", hkl(-1, 99, 0), 2}, {"a slanting axis", hkl(-1, 100, 0), 0}, {"a slanting axis", hkl(1, -100, 0), 0},
		{"Fm-3m", hkl(100, -100, 100), 8}, {"Fm-3m", hkl(100, 99, 98), 48},
	} {
		g := spaceGroup(t, c.group)
		if got := impl.Family(g, c.h); len(got) != c.want {
			t.Error(c, got)
		}
		for _, list := range [][]impl.Hkl{{c.h}, {hkl(1, 1, 1), c.h}, {c.h, hkl(0, 0, 0)}} {
			if got := impl.Unique(g, list); (len(got) == len(list)) != (c.want > 0) || (len(got) == 0) != (c.want == 0) {
				t.Error(c, list, got)
			}
		}
	}
}

func checkReflection(t *testing.T, g []impl.Op, h impl.Hkl) {
	t.Helper()
	if got := impl.Extinct(g, h); got != extinctByRule(g, h) {
		t.Fatal(showAll(g), h, got)
	}
	if got := impl.Family(g, h); !slices.Equal(got, familyByRule(g, h)) {
		t.Fatal(showAll(g), h, got)
	}
	if got := impl.Unique(g, []impl.Hkl{h}); !slices.Equal(got, uniqueByRule(g, []impl.Hkl{h})) {
		t.Fatal(showAll(g), h, got)
	}
}

func TestReflectionsByRule(t *testing.T) {
	var d dice
	for _, s := range spaces() {
		g := mustClose(t, s.gens...)
		for range 8 {
			for _, most := range []int64{3, 12, 50, 100} {
				checkReflection(t, g, d.hkl(most))
				checkReflection(t, g, d.specialHkl(most))
			}
		}
		for _, h := range []impl.Hkl{hkl(0, 0, 0), hkl(100, 0, 0), hkl(0, -100, 0), hkl(0, 0, 100), hkl(-100, -100, -100), hkl(100, -100, 0)} {
			checkReflection(t, g, h)
		}
	}
}

// What a sum of roots is, told exactly, is what sines tell.
func TestWaveIsWhatSinesTell(t *testing.T) {
	var d dice
	for range 500 {
		var w, exact wave
		for i := range w {
			w[i] = d.between(0, 5)
		}
		rest := w.rest()
		copy(exact[:], rest[:])
		if cmplx.Abs(exact.float()-w.float()) > 1e-9 {
			t.Fatal(w, rest)
		}
	}
}

// P8: an extinct reflection is nought, whatever lies at whatever points; one
// that is not is more than that for some point.
func TestExtinctIsWhatNoStructureScatters(t *testing.T) {
	var d dice
	for _, s := range spaces() {
		g := mustClose(t, s.gens...)
		for i := range 30 {
			h := d.specialHkl(11)
			if i%2 == 0 {
				h = d.hkl(4)
			}
			extinct := impl.Extinct(g, h)
			seen := false
			for range 20 {
				w := waveOf(impl.Orbit(g, d.point()), h).rest()
				if seen = w != [8]int64{}; seen {
					break
				}
			}
			if seen == extinct {
				t.Error(s.name, h, extinct, seen)
			}
		}
	}
}

// P8: what a structure scatters into h is what it scatters into another of the
// family, turned by the told phase.
func TestFamiliesDifferByTheToldPhase(t *testing.T) {
	var d dice
	for _, s := range spaces() {
		g := mustClose(t, s.gens...)
		for range 10 {
			h := d.hkl(40)
			points := slices.Concat(impl.Orbit(g, d.point()), impl.Orbit(g, d.special()))
			whole := waveOf(points, h).rest()
			for _, f := range impl.Family(g, h) {
				other := waveOf(points, hkl(f.H, f.K, f.L))
				if other.turned(f.Phase).rest() != whole {
					t.Fatal(s.name, h, f)
				}
			}
		}
	}
}

func TestUniqueByHand(t *testing.T) {
	for _, c := range []struct {
		group      string
		list, want []impl.Hkl
	}{
		{"P1", nil, nil},
		{"P1", []impl.Hkl{}, nil},
		{"P1", []impl.Hkl{hkl(0, 0, 0)}, []impl.Hkl{hkl(0, 0, 0)}},
		{"Fm-3m", []impl.Hkl{hkl(0, 0, 0), hkl(0, 0, 0)}, []impl.Hkl{hkl(0, 0, 0)}},
		{"P1", []impl.Hkl{hkl(-1, 2, 3)}, []impl.Hkl{hkl(1, -2, -3)}},
		{"P1", []impl.Hkl{hkl(0, -2, 3)}, []impl.Hkl{hkl(0, 2, -3)}},
		{"P1", []impl.Hkl{hkl(0, 0, -3)}, []impl.Hkl{hkl(0, 0, 3)}},
		{"P1", []impl.Hkl{hkl(1, 2, 3), hkl(-1, -2, -3)}, []impl.Hkl{hkl(1, 2, 3)}},
		{"P1", []impl.Hkl{hkl(1, 2, 3), hkl(1, 2, 3)}, []impl.Hkl{hkl(1, 2, 3)}},
		{"P1", []impl.Hkl{hkl(3, 0, 0), hkl(1, 2, 3), hkl(1, 2, -3), hkl(1, -2, 3), hkl(-2, 0, 0)},
			[]impl.Hkl{hkl(1, -2, 3), hkl(1, 2, -3), hkl(1, 2, 3), hkl(2, 0, 0), hkl(3, 0, 0)}},
		{"P21", []impl.Hkl{hkl(-1, -3, 2), hkl(1, 3, -2), hkl(1, -3, -2)}, []impl.Hkl{hkl(1, 3, -2)}},
		{"P21", []impl.Hkl{hkl(0, -3, 0), hkl(0, 3, 0)}, []impl.Hkl{hkl(0, 3, 0)}},
		{"P41", []impl.Hkl{hkl(1, 2, 3), hkl(-2, 1, 3), hkl(-1, -2, -3), hkl(2, 1, 3)}, []impl.Hkl{hkl(2, -1, 3), hkl(2, 1, 3)}},
		{"P3", []impl.Hkl{hkl(1, 0, 2), hkl(0, 1, 2), hkl(-1, 0, 2)}, []impl.Hkl{hkl(1, 0, -2), hkl(1, 0, 2)}},
		{"Pm-3m", []impl.Hkl{hkl(1, 2, 3), hkl(-3, 1, 2), hkl(0, 0, -7), hkl(100, -100, 100)}, []impl.Hkl{hkl(3, 2, 1), hkl(7, 0, 0), hkl(100, 100, 100)}},
		{"a slanting axis", []impl.Hkl{hkl(1, 3, 4), hkl(2, 3, -4), hkl(-1, -3, 4)}, []impl.Hkl{hkl(2, 3, -4), hkl(2, 3, 4)}},
	} {
		if got := impl.Unique(spaceGroup(t, c.group), c.list); !slices.Equal(got, c.want) {
			t.Error(c.group, c.list, got)
		}
	}
}

func TestUniqueByRule(t *testing.T) {
	var d dice
	for _, s := range spaces() {
		g := mustClose(t, s.gens...)
		list := []impl.Hkl{}
		for range 60 {
			h := d.hkl(2)
			list = append(list, h, d.hkl(50), d.specialHkl(40))
		}
		got := impl.Unique(g, list)
		if !slices.Equal(got, uniqueByRule(g, list)) || !sortedHkls(got) || len(got) < 30 {
			t.Fatal(s.name, list, got)
		}
		if again := impl.Unique(g, got); !slices.Equal(again, got) {
			t.Error(s.name, "not its own:", got, again)
		}
		slices.Reverse(list)
		if other := impl.Unique(g, append(list, list[:9]...)); !slices.Equal(other, got) {
			t.Error(s.name, "hangs on the order:", got, other)
		}
	}
}

func TestUniqueTakesMaxListAndNoMore(t *testing.T) {
	list := []impl.Hkl{}
	for n := range int64(4096) {
		list = append(list, hkl(1+n/256, n/16%16, n%16))
	}
	for _, name := range []string{"P1", "Fm-3m"} {
		g := spaceGroup(t, name)
		if got := impl.Unique(g, list); len(list) != impl.MaxList || !slices.Equal(got, uniqueByRule(g, list)) {
			t.Error(name, len(got))
		}
		for _, more := range [][]impl.Hkl{append(slices.Clone(list), list[0]), slices.Repeat([]impl.Hkl{{}}, 4097), slices.Repeat(list, 20)} {
			if got := impl.Unique(g, more); len(got) != 0 {
				t.Error(name, len(more), got)
			}
		}
	}
	if got := impl.Unique(spaceGroup(t, "P1"), slices.Repeat([]impl.Hkl{{}}, 4096)); !slices.Equal(got, []impl.Hkl{{}}) {
		t.Error(got)
	}
}

func TestWrongReflections(t *testing.T) {
	for _, name := range []string{"P1", "P21", "Fm-3m", "shifts alone"} {
		g := spaceGroup(t, name)
		for _, h := range wrongHkls() {
			if impl.Extinct(g, h) {
				t.Error(name, h)
			}
			if got := impl.Family(g, h); len(got) != 0 {
				t.Error(name, h, got)
			}
			for _, list := range [][]impl.Hkl{{h}, {hkl(1, 2, 3), h}, {h, hkl(1, 2, 3)}} {
				if got := impl.Unique(g, list); len(got) != 0 {
					t.Error(name, list, got)
				}
			}
		}
	}
}

func TestWrongPointsHaveNoOrbit(t *testing.T) {
	for _, name := range []string{"P1", "P21", "Fm-3m", "shifts alone"} {
		g := spaceGroup(t, name)
		for _, p := range wrongPoints() {
			checkNoOrbit(t, g, p)
		}
	}
}

func checkNoOrbit(t *testing.T, g []impl.Op, p impl.Point) {
	t.Helper()
	if got := impl.Orbit(g, p); len(got) != 0 {
		t.Error(p, got)
	}
	if got := impl.Stabiliser(g, p); len(got) != 0 {
		t.Error(p, got)
	}
	if got, ok := impl.Asymmetric(g, p); ok || got != (impl.Point{}) {
		t.Error(p, got, ok)
	}
}

func TestSitesOfWhatIsNoGroup(t *testing.T) {
	for name, no := range notGroups(t) {
		checkNoOrbit(t, no, at(0, 0, 0))
		checkNoOrbit(t, no, at(1, 2, 3))
		checkNoOrbit(t, no, at(24, 0, 0))
		if got := impl.Sites(no); len(got) != 0 {
			t.Error(name, got)
		}
		for _, h := range []impl.Hkl{hkl(0, 0, 0), hkl(0, 0, 1), hkl(0, 1, 0), hkl(1, 0, 0), hkl(1, 2, 3)} {
			if impl.Extinct(no, h) {
				t.Error(name, h)
			}
			if got := impl.Family(no, h); len(got) != 0 {
				t.Error(name, h, got)
			}
			if got := impl.Unique(no, []impl.Hkl{h}); len(got) != 0 {
				t.Error(name, h, got)
			}
		}
		if got := impl.Unique(no, nil); len(got) != 0 {
			t.Error(name, got)
		}
	}
}

func TestSiteArgumentsStay(t *testing.T) {
	g, guardG := withRoom(mustClose(t, "-y,x,z+1/4", "x,y,-z"))
	wrong, guardWrong := withRoom([]impl.Op{g[3], g[0], {}, {M: []int64{1}, T: []int64{2, 3}}})
	room := []impl.Hkl{hkl(3, 2, 1), hkl(-1, 2, 3), hkl(-1, 2, 3), hkl(0, 0, 8), hkl(7, 7, 7), hkl(9, 9, 9)}
	list, want := room[:4], slices.Clone(room)
	spoil(impl.Stabiliser(g, at(0, 0, 3)))
	unique := impl.Unique(g, list)
	for i := range unique {
		unique[i] = hkl(-9, -9, -9)
	}
	if len(unique) == 0 || len(impl.Unique(g, list[:1])) != 1 {
		t.Error(unique)
	}
	for _, ops := range [][]impl.Op{g, wrong} {
		impl.Act(ops[0], at(1, 2, 3))
		impl.Orbit(ops, at(1, 2, 3))
		impl.Stabiliser(ops, at(0, 0, 0))
		impl.Asymmetric(ops, at(1, 2, 3))
		impl.Sites(ops)
		impl.Extinct(ops, hkl(0, 0, 1))
		impl.Family(ops, hkl(0, 0, 1))
		impl.Unique(ops, list)
	}
	if !guardG() || !guardWrong() || !slices.Equal(room, want) {
		t.Error(g, wrong, room)
	}
}

// checkNewList spoils one answer, behind its length too, and asks again.
func checkNewList[T comparable](t *testing.T, name string, ask func() []T) {
	t.Helper()
	first, second := ask(), ask()
	want := slices.Clone(first)
	var nothing T
	first = first[:cap(first)]
	for i := range first {
		first[i] = nothing
	}
	if len(want) == 0 || !slices.Equal(second, want) || !slices.Equal(ask(), want) {
		t.Error(name, second, want)
	}
}

func TestSiteAnswersAreNewMemory(t *testing.T) {
	g := mustClose(t, "-y,x,z+1/4", "x,y,-z")
	list := []impl.Hkl{hkl(3, 2, 1), hkl(3, 2, 1), hkl(1, 0, 0)}
	checkNewList(t, "Orbit", func() []impl.Point { return impl.Orbit(g, at(1, 2, 3)) })
	checkNewList(t, "Sites", func() []impl.Site { return impl.Sites(g) })
	checkNewList(t, "Family", func() []impl.Shift { return impl.Family(g, hkl(1, 2, 3)) })
	checkNewList(t, "Unique", func() []impl.Hkl { return impl.Unique(g, list) })
	first, second := impl.Stabiliser(g, at(0, 0, 0)), impl.Stabiliser(g, at(0, 0, 0))
	want := cloneOps(first)
	spoil(first)
	if len(want) != 4 || !sameOps(second, want) || !sameOps(impl.Stabiliser(g, at(0, 0, 0)), want) {
		t.Error(showAll(second))
	}
	if !shareNothing(listsOf(second...)) {
		t.Error("two lists share memory")
	}
}

func (d *dice) wildNumber() int64 { return int64(d.bits()) >> d.between(0, 63) }

func TestSiteAnswersAtEveryArgument(t *testing.T) {
	var d dice
	groups := 0
	for range 3000 {
		g := []impl.Op{}
		for range d.between(0, 4) {
			g = append(g, d.wildOp())
		}
		if d.between(0, 1) == 0 {
			g, _ = impl.Close(g[:min(len(g), 1)])
		}
		p, h := d.point(), d.hkl(100)
		if d.between(0, 1) == 0 {
			p, h = at(d.wildNumber(), d.wildNumber(), d.wildNumber()), hkl(d.wildNumber(), d.wildNumber(), d.wildNumber())
		}
		isGroup := isGroupByRule(g)
		rightPoint, rightHkl := isGroup && isPointByRule(p), isGroup && isHklByRule(h)
		if rightPoint && rightHkl {
			groups++
		}
		o := d.wildOp()
		if q, ok := impl.Act(o, p); ok != (rightByRule(o) && isPointByRule(p)) || !isPointByRule(q) {
			t.Fatal(o, p, q, ok)
		}
		first, ok := impl.Asymmetric(g, p)
		if ok != rightPoint || (len(impl.Orbit(g, p)) > 0) != rightPoint || (len(impl.Stabiliser(g, p)) > 0) != rightPoint {
			t.Fatal(g, p, first, ok)
		}
		if (len(impl.Family(g, h)) > 0) != rightHkl || (len(impl.Unique(g, []impl.Hkl{h})) == 1) != rightHkl {
			t.Fatal(g, h)
		}
		if impl.Extinct(g, h) != (rightHkl && extinctByRule(g, h)) {
			t.Fatal(g, h)
		}
	}
	if groups < 300 {
		t.Error("too few were groups:", groups)
	}
}
