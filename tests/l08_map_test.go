package tests

import (
	"math"
	"os"
	"os/exec"
	"slices"
	"strconv"
	"strings"
	"sync"
	"testing"

	"loop.example/g00055/impl"
)

func TestMapOk(t *testing.T) {
	var d dice
	if impl.Prime != 12289 {
		t.Error(impl.Prime)
	}
	for _, n := range sides() {
		for _, m := range d.maps(n) {
			if !impl.MapOk(m) {
				t.Error(m)
			}
		}
	}
	for _, m := range wrongMaps() {
		if impl.MapOk(m) {
			t.Error(m.N, len(m.Rho), m)
		}
	}
}

// Root's powers are all unlike, and it is a root of w⁴ = w² - 1 as w is.
func TestRootIsOfOrderTwelve(t *testing.T) {
	roots := rootsByRule()
	if roots != [12]int64{1, 79, 6241, 1479, 6240, 1400, 12288, 12210, 6048, 10810, 6049, 10889} {
		t.Error(roots)
	}
	if roots[11]*roots[1]%12289 != 1 || (roots[4]-roots[2]+1)%12289 != 0 {
		t.Error(roots)
	}
}

func TestWrongMaps(t *testing.T) {
	g := mustClose(t)
	for _, m := range wrongMaps() {
		for _, got := range []impl.Map{impl.Forward(m), impl.Backward(m), impl.Convolve(m, m), impl.Patterson(m), impl.Average(m, g), impl.Average(m, nil)} {
			if !isZeroMap(got) {
				t.Error(m, got)
			}
		}
		for _, n := range smallSides() {
			if got := impl.Convolve(m, mapOf(n)); !isZeroMap(got) {
				t.Error(m, n, got)
			}
			if got := impl.Convolve(mapOf(n), m); !isZeroMap(got) {
				t.Error(n, m, got)
			}
		}
		if got := impl.Peaks(m); len(got) != 0 {
			t.Error(m, got)
		}
	}
}

func TestGreatMapsAreNotSmall(t *testing.T) {
	var d dice
	for _, m := range d.maps(12) {
		for _, got := range []impl.Map{impl.Forward(m), impl.Backward(m), impl.Convolve(m, m), impl.Patterson(m)} {
			if !impl.MapOk(m) || !isZeroMap(got) {
				t.Error(m, got)
			}
		}
		for _, n := range smallSides() {
			if !isZeroMap(impl.Convolve(m, mapOf(n))) || !isZeroMap(impl.Convolve(mapOf(n), m)) {
				t.Error(n, m)
			}
		}
	}
}

// along: the map whose number at a place hangs on one of its numbers alone.
func along(axis int, row ...int64) impl.Map {
	return eachPlace(int64(len(row)), func(x, y, z int64) int64 { return row[[3]int64{x, y, z}[axis]] })
}

func TestForwardByHand(t *testing.T) {
	for _, c := range []struct{ m, want impl.Map }{
		{mapOf(1, [4]int64{0, 0, 0, 5}), mapOf(1, [4]int64{0, 0, 0, 5})},
		{mapOf(1, [4]int64{0, 0, 0, 12288}), mapOf(1, [4]int64{0, 0, 0, 12288})},
		{mapOf(2), mapOf(2)},
		{mapOf(6), mapOf(6)},
		{mapOf(2, [4]int64{0, 0, 0, 9}), along(0, 9, 9)},
		{mapOf(2, [4]int64{1, 0, 0, 3}), along(0, 3, 12286)},
		{mapOf(2, [4]int64{0, 1, 0, 3}), along(1, 3, 12286)},
		{mapOf(2, [4]int64{0, 0, 1, 3}), along(2, 3, 12286)},
		{mapOf(2, [4]int64{1, 1, 1, 1}), impl.Map{N: 2, Rho: []int64{1, 12288, 12288, 1, 12288, 1, 1, 12288}}},
		{impl.Map{N: 2, Rho: []int64{1, 2, 3, 4, 5, 6, 7, 8}}, impl.Map{N: 2, Rho: []int64{36, 12285, 12281, 0, 12273, 0, 0, 0}}},
		{along(0, 12288, 12288), mapOf(2, [4]int64{0, 0, 0, 12281})},
		{mapOf(3, [4]int64{1, 0, 0, 1}), along(0, 1, 6240, 6048)},
		{mapOf(3, [4]int64{0, 2, 0, 1}), along(1, 1, 6048, 6240)},
		{mapOf(4, [4]int64{0, 1, 0, 1}), along(1, 1, 1479, 12288, 10810)},
		{mapOf(4, [4]int64{0, 0, 3, 2}), along(2, 2, 9331, 12287, 2958)},
		{mapOf(6, [4]int64{0, 0, 1, 1}), along(2, 1, 6241, 6240, 12288, 6048, 6049)},
		{mapOf(6, [4]int64{5, 0, 0, 1}), along(0, 1, 6049, 6048, 12288, 6240, 6241)},
		{along(1, 1, 1, 1, 1, 1, 1), mapOf(6, [4]int64{0, 0, 0, 216})},
	} {
		if got := impl.Forward(c.m); !sameMap(got, c.want) {
			t.Error(c.m, got, c.want)
		}
		if got := impl.Backward(c.want); !sameMap(got, c.m) {
			t.Error(c.want, got, c.m)
		}
	}
}

func TestBackwardByHand(t *testing.T) {
	for _, c := range []struct{ m, want impl.Map }{
		{mapOf(1, [4]int64{0, 0, 0, 5}), mapOf(1, [4]int64{0, 0, 0, 5})},
		{mapOf(2, [4]int64{0, 0, 0, 8}), along(0, 1, 1)},
		{mapOf(2, [4]int64{0, 0, 0, 1}), along(0, 10753, 10753)},
		{mapOf(3, [4]int64{1, 0, 0, 27}), along(0, 1, 6048, 6240)},
		{mapOf(4, [4]int64{0, 1, 0, 64}), along(1, 1, 10810, 12288, 1479)},
		{mapOf(6, [4]int64{0, 0, 1, 216}), along(2, 1, 6049, 6048, 12288, 6240, 6241)},
	} {
		if got := impl.Backward(c.m); !sameMap(got, c.want) {
			t.Error(c.m, got, c.want)
		}
	}
}

func TestTransformsByRule(t *testing.T) {
	var d dice
	for _, n := range smallSides() {
		for _, m := range d.maps(n) {
			if got := impl.Forward(m); !sameMap(got, forwardByRule(m)) {
				t.Fatal(m, got)
			}
			if got := impl.Backward(m); !sameMap(got, backwardByRule(m)) {
				t.Fatal(m, got)
			}
		}
	}
}

// P12: Backward of Forward is the map, and the other way round.
func TestBackwardOfForwardIsTheMap(t *testing.T) {
	var d dice
	unlike := 0
	for _, n := range smallSides() {
		for range 20 {
			for _, m := range d.maps(n) {
				there := impl.Forward(m)
				if !impl.MapOk(there) || !sameMap(impl.Backward(there), m) || !sameMap(impl.Forward(impl.Backward(m)), m) {
					t.Fatal(m, there)
				}
				if !sameMap(there, m) && !sameMap(there, impl.Backward(m)) {
					unlike++
				}
			}
		}
	}
	if unlike < 500 {
		t.Error("too few are changed:", unlike)
	}
}

func TestConvolveByHand(t *testing.T) {
	one := impl.Map{N: 2, Rho: []int64{1, 2, 3, 4, 5, 6, 7, 8}}
	for _, c := range []struct{ a, b, want impl.Map }{
		{mapOf(1, [4]int64{0, 0, 0, 5}), mapOf(1, [4]int64{0, 0, 0, 7}), mapOf(1, [4]int64{0, 0, 0, 35})},
		{mapOf(1, [4]int64{0, 0, 0, 12288}), mapOf(1, [4]int64{0, 0, 0, 12288}), mapOf(1, [4]int64{0, 0, 0, 1})},
		{one, mapOf(2), mapOf(2)},
		{one, mapOf(2, [4]int64{0, 0, 0, 1}), one},
		{one, mapOf(2, [4]int64{0, 1, 0, 1}), impl.Map{N: 2, Rho: []int64{3, 4, 1, 2, 7, 8, 5, 6}}},
		{one, along(0, 1, 1), along(0, 36, 36)},
		{mapOf(3, [4]int64{2, 1, 0, 4}), mapOf(3, [4]int64{2, 1, 2, 5}), mapOf(3, [4]int64{1, 2, 2, 20})},
		{mapOf(4, [4]int64{3, 0, 1, 4}, [4]int64{0, 0, 0, 1}), mapOf(4, [4]int64{2, 2, 3, 5}), mapOf(4, [4]int64{1, 2, 0, 20}, [4]int64{2, 2, 3, 5})},
		{mapOf(6, [4]int64{5, 3, 0, 12288}), mapOf(6, [4]int64{5, 5, 1, 2}), mapOf(6, [4]int64{4, 2, 1, 12287})},
	} {
		if got := impl.Convolve(c.a, c.b); !sameMap(got, c.want) {
			t.Error(c.a, c.b, got, c.want)
		}
		if got := impl.Convolve(c.b, c.a); !sameMap(got, c.want) {
			t.Error(c.b, c.a, got, c.want)
		}
	}
}

func TestConvolveByRule(t *testing.T) {
	var d dice
	for _, n := range smallSides() {
		list := d.maps(n)
		for i, a := range list {
			b := list[(i*5+3)%len(list)]
			if got := impl.Convolve(a, b); !sameMap(got, convolveByRule(a, b)) {
				t.Fatal(a, b, got)
			}
		}
		a, b := d.drawn(n, 12288), d.drawn(n, 12288)
		if got := impl.Convolve(a, b); !sameMap(got, convolveByRule(a, b)) {
			t.Fatal(a, b, got)
		}
	}
}

func TestConvolveWantsOneSide(t *testing.T) {
	var d dice
	for _, n := range smallSides() {
		for _, k := range smallSides() {
			got := impl.Convolve(d.drawn(n, 12288), d.drawn(k, 12288))
			if isZeroMap(got) != (n != k) {
				t.Error(n, k, got)
			}
		}
	}
}

// P12: Forward of Convolve is the product number by number.
func TestForwardOfConvolveIsTheProduct(t *testing.T) {
	var d dice
	for _, n := range smallSides() {
		for range 4 {
			list := d.maps(n)
			for _, a := range list {
				for _, b := range list {
					p, q := impl.Forward(a), impl.Forward(b)
					want := eachPlace(n, func(x, y, z int64) int64 { return numberAt(p, x, y, z) * numberAt(q, x, y, z) % 12289 })
					if got := impl.Forward(impl.Convolve(a, b)); !sameMap(got, want) {
						t.Fatal(a, b, got, want)
					}
				}
			}
		}
	}
}

func TestPattersonByHand(t *testing.T) {
	for _, c := range []struct{ m, want impl.Map }{
		{mapOf(1, [4]int64{0, 0, 0, 5}), mapOf(1, [4]int64{0, 0, 0, 25})},
		{mapOf(1, [4]int64{0, 0, 0, 12288}), mapOf(1, [4]int64{0, 0, 0, 1})},
		{mapOf(4), mapOf(4)},
		{mapOf(6, [4]int64{5, 2, 3, 4}), mapOf(6, [4]int64{0, 0, 0, 16})},
		{mapOf(2, [4]int64{0, 0, 0, 3}, [4]int64{1, 0, 1, 2}), mapOf(2, [4]int64{0, 0, 0, 13}, [4]int64{1, 0, 1, 12})},
		{mapOf(3, [4]int64{0, 0, 0, 3}, [4]int64{1, 0, 0, 2}), mapOf(3, [4]int64{0, 0, 0, 13}, [4]int64{1, 0, 0, 6}, [4]int64{2, 0, 0, 6})},
		{mapOf(6, [4]int64{1, 2, 5, 3}, [4]int64{2, 0, 0, 12288}), mapOf(6, [4]int64{0, 0, 0, 10}, [4]int64{1, 4, 1, 12286}, [4]int64{5, 2, 5, 12286})},
		{along(2, 12288, 12288, 12288, 12288), along(2, 64, 64, 64, 64)},
	} {
		if got := impl.Patterson(c.m); !sameMap(got, c.want) {
			t.Error(c.m, got, c.want)
		}
	}
}

func TestPattersonByRule(t *testing.T) {
	var d dice
	for _, n := range smallSides() {
		for _, m := range d.maps(n) {
			if got := impl.Patterson(m); !sameMap(got, pattersonByRule(m)) {
				t.Fatal(m, got)
			}
		}
	}
}

// P12: Patterson is the same at p and -p; at 0 it is the sum of the squares.
func TestPattersonIsTheSameAtTheOpposite(t *testing.T) {
	var d dice
	unlike := 0
	for _, n := range smallSides() {
		for range 5 {
			for _, m := range d.maps(n) {
				got := impl.Patterson(m)
				mirrored := eachPlace(n, func(x, y, z int64) int64 { return numberAt(got, -x, -y, -z) })
				squares := sumOverPlaces(n, func(x, y, z int64) int64 { return numberAt(m, x, y, z) * numberAt(m, x, y, z) })
				if !impl.MapOk(got) || !sameMap(got, mirrored) || got.Rho[0] != squares {
					t.Fatal(m, got)
				}
				if !sameMap(m, eachPlace(n, func(x, y, z int64) int64 { return numberAt(m, -x, -y, -z) })) {
					unlike++
				}
			}
		}
	}
	if unlike < 100 {
		t.Error("too few were not the same already:", unlike)
	}
}

func TestPaintByHand(t *testing.T) {
	several := []impl.Atom{atom(6, 0, 6, 9), atom(0, 0, 0, 4), atom(6, 0, 6, -2), atom(0, 6, 0, -1), atom(6, 6, 6, 5), atom(6, 6, 6, -5)}
	for _, c := range []struct {
		atoms []impl.Atom
		n     int64
		want  impl.Map
	}{
		{nil, 1, mapOf(1)},
		{[]impl.Atom{}, 12, mapOf(12)},
		{[]impl.Atom{atom(0, 0, 0, 7)}, 1, mapOf(1, [4]int64{0, 0, 0, 7})},
		{[]impl.Atom{atom(0, 0, 0, -7)}, 1, mapOf(1, [4]int64{0, 0, 0, 12282})},
		{[]impl.Atom{atom(0, 0, 0, 1000)}, 6, mapOf(6, [4]int64{0, 0, 0, 1000})},
		{[]impl.Atom{atom(0, 0, 0, -1000)}, 6, mapOf(6, [4]int64{0, 0, 0, 11289})},
		{[]impl.Atom{atom(6, 0, 0, 3)}, 2, mapOf(2, [4]int64{1, 0, 0, 3})},
		{[]impl.Atom{atom(4, 8, 0, 3)}, 3, mapOf(3, [4]int64{1, 2, 0, 3})},
		{[]impl.Atom{atom(3, 6, 9, 3)}, 4, mapOf(4, [4]int64{1, 2, 3, 3})},
		{[]impl.Atom{atom(2, 8, 10, 3)}, 6, mapOf(6, [4]int64{1, 4, 5, 3})},
		{[]impl.Atom{atom(11, 1, 7, 3)}, 12, mapOf(12, [4]int64{11, 1, 7, 3})},
		{several, 2, mapOf(2, [4]int64{1, 0, 1, 7}, [4]int64{0, 0, 0, 4}, [4]int64{0, 1, 0, 12288})},
		{several, 4, mapOf(4, [4]int64{2, 0, 2, 7}, [4]int64{0, 0, 0, 4}, [4]int64{0, 2, 0, 12288})},
		{several, 6, mapOf(6, [4]int64{3, 0, 3, 7}, [4]int64{0, 0, 0, 4}, [4]int64{0, 3, 0, 12288})},
		{several, 12, mapOf(12, [4]int64{6, 0, 6, 7}, [4]int64{0, 0, 0, 4}, [4]int64{0, 6, 0, 12288})},
		{slices.Repeat([]impl.Atom{atom(0, 9, 0, 1000)}, 200), 4, mapOf(4, [4]int64{0, 3, 0, 3376})},
		{slices.Repeat([]impl.Atom{atom(0, 9, 0, -1000)}, 200), 4, mapOf(4, [4]int64{0, 3, 0, 8913})},
	} {
		if got := impl.Paint(c.atoms, c.n); !sameMap(got, c.want) {
			t.Error(c.atoms, c.n, got, c.want)
		}
	}
}

// One that lies between spoils the whole, wherever it stands and whatever its F.
func TestPaintRefusesWhatLiesBetween(t *testing.T) {
	there := atom(0, 0, 0, 5)
	for _, n := range sides() {
		for k := range int64(12) {
			for axis := range 3 {
				for _, f := range []int64{0, 1, -1000} {
					p := [3]int64{}
					p[axis] = k
					a := atom(p[0], p[1], p[2], f)
					for _, atoms := range [][]impl.Atom{{a}, {a, there}, {there, a}, {there, a, there}} {
						if got := impl.Paint(atoms, n); isZeroMap(got) != (k*n%12 != 0) {
							t.Error(atoms, n, got)
						}
					}
				}
			}
		}
	}
}

func TestPaintRefuses(t *testing.T) {
	for _, n := range []int64{0, 5, 7, 8, 9, 10, 11, 13, 24, -1, -2, -6, -12, 1 << 32, math.MaxInt64, math.MinInt64} {
		for _, atoms := range [][]impl.Atom{nil, {atom(0, 0, 0, 1)}, {atom(6, 6, 6, 1)}} {
			if got := impl.Paint(atoms, n); !isZeroMap(got) {
				t.Error(atoms, n, got)
			}
		}
	}
	for _, atoms := range wrongStructures() {
		for _, n := range append(sides(), 0, 5) {
			if got := impl.Paint(atoms, n); !isZeroMap(got) {
				t.Error(atoms, n, got)
			}
		}
	}
}

// atomsOn: a structure of which no atom lies between at n.
func (d *dice) atomsOn(n int64, count int) []impl.Atom {
	atoms := d.atoms(count, 1000)
	for i, a := range atoms {
		step := 12 / n
		atoms[i] = atom(a.X/step*step, a.Y/step*step, a.Z/step*step, a.F)
	}
	return atoms
}

func TestPaintByRule(t *testing.T) {
	var d dice
	painted := 0
	for _, n := range sides() {
		for _, count := range []int{0, 1, 2, 3, 7, 30, 199, 200} {
			for _, k := range sides() {
				atoms := d.atomsOn(k, count)
				got := impl.Paint(atoms, n)
				if !sameMap(got, paintByRule(atoms, n)) {
					t.Fatal(atoms, n, got)
				}
				if !isZeroMap(got) {
					painted++
				}
			}
		}
	}
	if painted < 100 {
		t.Error("too few were painted:", painted)
	}
}

// What a painted structure is transformed into is what Exact tells, with the
// residue Root in the place of the root of one.
func TestForwardOfPaintIsExact(t *testing.T) {
	var d dice
	for _, n := range smallSides() {
		for range 5 {
			atoms := d.atomsOn(n, int(d.between(0, 30)))
			got := impl.Forward(impl.Paint(atoms, n))
			want := eachPlace(n, func(u, v, w int64) int64 { return residueOf(mustExact(t, atoms, hkl(u, v, w))) })
			if !sameMap(got, want) {
				t.Fatal(atoms, n, got, want)
			}
		}
	}
}

func TestAverageByHand(t *testing.T) {
	for _, c := range []struct {
		gens    []string
		m, want impl.Map
	}{
		{nil, mapOf(1, [4]int64{0, 0, 0, 12288}), mapOf(1, [4]int64{0, 0, 0, 12288})},
		{nil, impl.Map{N: 2, Rho: []int64{1, 2, 3, 4, 5, 6, 7, 8}}, impl.Map{N: 2, Rho: []int64{1, 2, 3, 4, 5, 6, 7, 8}}},
		{[]string{"-x,-y,-z"}, mapOf(1, [4]int64{0, 0, 0, 5}), mapOf(1, [4]int64{0, 0, 0, 5})},
		{[]string{"-x,-y,-z"}, impl.Map{N: 2, Rho: []int64{1, 2, 3, 4, 5, 6, 7, 8}}, impl.Map{N: 2, Rho: []int64{1, 2, 3, 4, 5, 6, 7, 8}}},
		{[]string{"-x,-y,-z"}, mapOf(3, [4]int64{1, 0, 2, 1}), mapOf(3, [4]int64{1, 0, 2, 6145}, [4]int64{2, 0, 1, 6145})},
		{[]string{"-x,-y,-z"}, mapOf(3, [4]int64{1, 0, 2, 4}, [4]int64{2, 0, 1, 12287}), mapOf(3, [4]int64{1, 0, 2, 1}, [4]int64{2, 0, 1, 1})},
		{[]string{"y,x,z"}, impl.Map{N: 2, Rho: []int64{1, 2, 4, 8, 0, 0, 0, 0}}, impl.Map{N: 2, Rho: []int64{1, 3, 3, 8, 0, 0, 0, 0}}},
		{[]string{"z,x,y"}, mapOf(4, [4]int64{1, 2, 3, 3}), mapOf(4, [4]int64{1, 2, 3, 1}, [4]int64{3, 1, 2, 1}, [4]int64{2, 3, 1, 1})},
		{[]string{"x+1/2,y,z"}, impl.Map{N: 2, Rho: []int64{4, 7, 0, 0, 1, 1, 2, 0}}, impl.Map{N: 2, Rho: []int64{6150, 6150, 0, 0, 1, 1, 1, 1}}},
		{[]string{"x,y+1/3,z"}, mapOf(3, [4]int64{0, 1, 2, 3}), mapOf(3, [4]int64{0, 0, 2, 1}, [4]int64{0, 1, 2, 1}, [4]int64{0, 2, 2, 1})},
		{[]string{"-y,x,z+1/4"}, mapOf(4, [4]int64{1, 0, 0, 8}), mapOf(4, [4]int64{1, 0, 0, 2}, [4]int64{0, 1, 1, 2}, [4]int64{3, 0, 2, 2}, [4]int64{0, 3, 3, 2})},
		{[]string{"-y,x-y,z"}, mapOf(6, [4]int64{1, 0, 5, 6}), mapOf(6, [4]int64{1, 0, 5, 2}, [4]int64{0, 1, 5, 2}, [4]int64{5, 5, 5, 2})},
		{[]string{"-x,y+1/2,-z+1/2"}, mapOf(12, [4]int64{1, 2, 3, 4}), mapOf(12, [4]int64{1, 2, 3, 2}, [4]int64{11, 8, 3, 2})},
	} {
		if got := impl.Average(c.m, mustClose(t, c.gens...)); !sameMap(got, c.want) {
			t.Error(c.gens, c.m, got, c.want)
		}
	}
}

func TestAverageWhereAPlaceComesBetween(t *testing.T) {
	var d dice
	for _, c := range []struct {
		part string
		most []int64
	}{
		{"0/1", []int64{1, 2, 3, 4, 6, 12}},
		{"1/2", []int64{2, 4, 6, 12}},
		{"1/3", []int64{3, 6, 12}},
		{"1/4", []int64{4, 12}},
		{"1/6", []int64{6, 12}},
		{"1/8", nil},
		{"1/12", []int64{12}},
		{"1/24", nil},
		{"5/6", []int64{6, 12}},
		{"3/4", []int64{4, 12}},
	} {
		for _, text := range []string{"x+S,y,z", "x,y+S,z", "x,y,z+S"} {
			g := mustClose(t, strings.ReplaceAll(text, "S", c.part))
			for _, n := range sides() {
				for _, m := range []impl.Map{mapOf(n), d.drawn(n, 12288)} {
					if got := impl.Average(m, g); isZeroMap(got) == slices.Contains(c.most, n) {
						t.Error(text, c.part, n, got)
					}
				}
			}
		}
	}
}

func TestAverageOfWhatIsNoGroup(t *testing.T) {
	for name, g := range notGroups(t) {
		for _, n := range sides() {
			if got := impl.Average(mapOf(n), g); !isZeroMap(got) {
				t.Error(name, n, got)
			}
		}
	}
}

// P12: an averaged map is its own average. It is as the group wants it, too.
func TestAnAverageIsItsOwnAverage(t *testing.T) {
	var d dice
	unlike, refused := 0, 0
	for _, s := range spaces() {
		g := mustClose(t, s.gens...)
		for _, n := range sides() {
			m := d.drawn(n, 12288)
			want := averageByRule(m, g)
			got := impl.Average(m, g)
			if !sameMap(got, want) {
				t.Fatal(s.name, m, got, want)
			}
			if isZeroMap(want) {
				refused++
				continue
			}
			if !impl.MapOk(got) || !sameMap(impl.Average(got, g), got) {
				t.Fatal(s.name, m, got)
			}
			checkKept(t, g, got)
			if !sameMap(got, m) {
				unlike++
			}
		}
	}
	if unlike < 40 || refused < 10 {
		t.Error(unlike, refused)
	}
}

// checkKept: no Op of the group takes a place to one of another number.
func checkKept(t *testing.T, g []impl.Op, m impl.Map) {
	t.Helper()
	step := 24 / m.N
	for _, o := range g {
		for i, rho := range m.Rho {
			k := int64(i)
			p := actByRule(o, at(step*(k%m.N), step*(k/m.N%m.N), step*(k/m.N/m.N)))
			if numberAt(m, p.X/step, p.Y/step, p.Z/step) != rho {
				t.Fatal(impl.OpShow(o), m, p)
			}
		}
	}
}

func TestAverageOfManyMaps(t *testing.T) {
	var d dice
	for _, s := range spaces() {
		g := mustClose(t, s.gens...)
		for _, n := range smallSides() {
			for _, m := range d.maps(n) {
				got := impl.Average(m, g)
				if !sameMap(got, averageByRule(m, g)) || !isZeroMap(got) && !sameMap(impl.Average(got, g), got) {
					t.Fatal(s.name, m, got)
				}
			}
		}
	}
}

// What a group has spread is painted as the group wants it.
func TestPaintOfSpreadIsItsOwnAverage(t *testing.T) {
	var d dice
	for _, s := range evenSpaces() {
		g := mustClose(t, s.gens...)
		for range 3 {
			m := impl.Paint(d.spreadOf(t, g), 12)
			if isZeroMap(m) || !sameMap(impl.Average(m, g), m) {
				t.Fatal(s.name, m)
			}
		}
	}
}

func TestPeaksByHand(t *testing.T) {
	peak := func(x, y, z, rho int64) impl.Peak { return impl.Peak{X: x, Y: y, Z: z, Rho: rho} }
	for _, c := range []struct {
		m    impl.Map
		want []impl.Peak
	}{
		// Of one place alone all neighbours are itself.
		{mapOf(1), nil},
		{mapOf(1, [4]int64{0, 0, 0, 1}), []impl.Peak{peak(0, 0, 0, 1)}},
		{mapOf(1, [4]int64{0, 0, 0, 12288}), []impl.Peak{peak(0, 0, 0, 12288)}},
		// At N = 2 each neighbour is one twice.
		{mapOf(2), nil},
		{along(0, 5, 5), nil},
		{along(0, 5, 6), nil},
		{mapOf(2, [4]int64{1, 0, 1, 3}), []impl.Peak{peak(1, 0, 1, 3)}},
		{mapOf(2, [4]int64{1, 0, 1, 3}, [4]int64{1, 1, 1, 3}), nil},
		{mapOf(2, [4]int64{1, 0, 1, 3}, [4]int64{1, 1, 1, 4}), []impl.Peak{peak(1, 1, 1, 4)}},
		{mapOf(2, [4]int64{0, 0, 0, 3}, [4]int64{1, 1, 0, 3}, [4]int64{1, 0, 1, 3}, [4]int64{0, 1, 1, 3}), []impl.Peak{peak(0, 0, 0, 3), peak(1, 1, 0, 3), peak(1, 0, 1, 3), peak(0, 1, 1, 3)}},
		{mapOf(2, [4]int64{0, 0, 0, 3}, [4]int64{1, 1, 0, 4}, [4]int64{1, 0, 1, 3}, [4]int64{0, 1, 1, 5}), []impl.Peak{peak(0, 1, 1, 5), peak(1, 1, 0, 4), peak(0, 0, 0, 3), peak(1, 0, 1, 3)}},
		// At N = 3 two along an axis are beside one another either way.
		{mapOf(3, [4]int64{0, 0, 0, 2}, [4]int64{2, 0, 0, 1}), []impl.Peak{peak(0, 0, 0, 2)}},
		{mapOf(3, [4]int64{0, 0, 0, 2}, [4]int64{0, 2, 0, 2}), nil},
		{mapOf(3, [4]int64{0, 0, 0, 2}, [4]int64{0, 1, 0, 2}), nil},
		{mapOf(3, [4]int64{0, 0, 0, 2}, [4]int64{1, 1, 1, 2}, [4]int64{2, 2, 2, 2}), []impl.Peak{peak(0, 0, 0, 2), peak(1, 1, 1, 2), peak(2, 2, 2, 2)}},
		// One of the six is across the cell's end.
		{mapOf(4, [4]int64{0, 0, 0, 2}, [4]int64{3, 0, 0, 3}), []impl.Peak{peak(3, 0, 0, 3)}},
		{mapOf(4, [4]int64{0, 0, 0, 2}, [4]int64{0, 3, 0, 3}), []impl.Peak{peak(0, 3, 0, 3)}},
		{mapOf(4, [4]int64{0, 0, 0, 2}, [4]int64{0, 0, 3, 3}), []impl.Peak{peak(0, 0, 3, 3)}},
		{mapOf(4, [4]int64{3, 3, 3, 2}, [4]int64{0, 3, 3, 2}), nil},
		{mapOf(4, [4]int64{3, 3, 3, 2}, [4]int64{3, 0, 3, 2}), nil},
		{mapOf(4, [4]int64{3, 3, 3, 2}, [4]int64{3, 3, 0, 2}), nil},
		{mapOf(4, [4]int64{2, 0, 0, 2}, [4]int64{0, 2, 0, 2}, [4]int64{0, 0, 2, 2}, [4]int64{1, 1, 0, 1}, [4]int64{3, 3, 2, 9}), []impl.Peak{peak(3, 3, 2, 9), peak(2, 0, 0, 2), peak(0, 2, 0, 2), peak(0, 0, 2, 2), peak(1, 1, 0, 1)}},
		{mapOf(6, [4]int64{1, 1, 1, 7}, [4]int64{2, 2, 1, 7}, [4]int64{2, 1, 1, 6}), []impl.Peak{peak(1, 1, 1, 7), peak(2, 2, 1, 7)}},
		{along(1, 1, 2, 3, 4, 3, 2), nil},
		{mapOf(12, [4]int64{11, 11, 11, 5}), []impl.Peak{peak(11, 11, 11, 5)}},
		{mapOf(12, [4]int64{11, 11, 11, 5}, [4]int64{0, 11, 11, 6}, [4]int64{1, 11, 11, 7}, [4]int64{10, 10, 10, 5}), []impl.Peak{peak(1, 11, 11, 7), peak(10, 10, 10, 5)}},
	} {
		if got := impl.Peaks(c.m); !slices.Equal(got, c.want) {
			t.Error(c.m, got, c.want)
		}
	}
}

// A number has to be above each of the six by itself.
func TestPeaksOfANumberLevelWithOneBeside(t *testing.T) {
	for _, n := range []int64{2, 3, 4, 6, 12} {
		for axis := range 3 {
			for _, step := range []int64{1, n - 1} {
				for _, rho := range []int64{1, 6, 7, 8, 12288} {
					beside := [4]int64{0, 0, 0, rho}
					beside[axis] = step
					got := impl.Peaks(mapOf(n, [4]int64{0, 0, 0, 7}, beside))
					lower := rho < 7 && slices.Equal(got, []impl.Peak{{Rho: 7}})
					higher := rho > 7 && slices.Equal(got, []impl.Peak{{X: beside[0], Y: beside[1], Z: beside[2], Rho: rho}})
					if !lower && !higher && (rho != 7 || len(got) != 0) {
						t.Error(n, beside, got)
					}
				}
			}
		}
	}
}

func TestPeaksByRule(t *testing.T) {
	var d dice
	none, one, several, level := 0, 0, 0, 0
	for _, n := range sides() {
		for range 12 {
			for _, m := range d.maps(n) {
				got := impl.Peaks(m)
				if !slices.Equal(got, peaksByRule(m)) {
					t.Fatal(m, got)
				}
				switch {
				case len(got) == 0:
					none++
				case len(got) == 1:
					one++
				case got[0].Rho == got[1].Rho:
					level++
				default:
					several++
				}
			}
		}
	}
	if none < 50 || one < 50 || several < 50 || level < 50 {
		t.Error(none, one, several, level)
	}
}

// mapAnswers: what every function tells of a map and an atom.
func mapAnswers(m impl.Map, g []impl.Op, atoms []impl.Atom) []impl.Map {
	return []impl.Map{impl.Forward(m), impl.Backward(m), impl.Convolve(m, m), impl.Patterson(m), impl.Average(m, g), impl.Paint(atoms, m.N)}
}

func TestMapArgumentsStay(t *testing.T) {
	var d dice
	g, guard := withRoom(mustClose(t, "-y,x,z", "x,y,-z"))
	wrong, guardWrong := withRoom([]impl.Op{g[3], g[0], {}})
	for _, n := range sides() {
		for _, first := range []int64{5, -1, 12289} {
			room := append(d.drawn(n, 12288).Rho, 77, -5, 99999, 0)
			room[0] = first
			want := slices.Clone(room)
			m := impl.Map{N: n, Rho: room[:n*n*n]}
			atoms := []impl.Atom{atom(0, 0, 0, first), atom(0, 0, 0, -3), atom(12, 0, 0, 9999), atom(7, 7, 7, 7)}
			wantAtoms := slices.Clone(atoms)
			for _, ops := range [][]impl.Op{g, wrong, nil} {
				for _, got := range mapAnswers(m, ops, atoms[:2]) {
					for i := range got.Rho[:cap(got.Rho)] {
						got.Rho[:cap(got.Rho)][i] = -9
					}
				}
				impl.MapOk(m)
				impl.Peaks(m)
				impl.Paint(atoms, n)
			}
			if !slices.Equal(room, want) || !slices.Equal(atoms, wantAtoms) || !guard() || !guardWrong() {
				t.Fatal(n, room, want)
			}
		}
	}
}

// What lies behind a list's length is not of it.
func TestMapLeavesOutWhatLiesBehind(t *testing.T) {
	room := []int64{3, 12289, 5, -1, 7, 7, 7, 7, 7, 7}
	m := impl.Map{N: 1, Rho: room[:1]}
	if !impl.MapOk(m) || !slices.Equal(impl.Peaks(m), []impl.Peak{{Rho: 3}}) {
		t.Error(m)
	}
	atoms := []impl.Atom{atom(0, 0, 0, 3), atom(1, 1, 1, 5), atom(99, 0, 0, 0)}
	for i, got := range mapAnswers(m, mustClose(t), atoms[:1]) {
		if want := []int64{3, 3, 9, 9, 3, 3}[i]; !sameMap(got, mapOf(1, [4]int64{0, 0, 0, want})) {
			t.Error(i, got)
		}
	}
	if impl.MapOk(impl.Map{N: 2, Rho: make([]int64, 7, 8)}) {
		t.Error("room is no number")
	}
}

func TestMapAnswersAreNewMemory(t *testing.T) {
	var d dice
	g := mustClose(t, "-y,x,z", "x,y,-z")
	atoms := []impl.Atom{atom(0, 0, 0, 5), atom(0, 0, 0, 4)}
	for _, n := range sides() {
		m := d.drawn(n, 12288)
		m.Rho[0] = 12288
		want := cloneMap(m)
		checkNewList(t, "Average", func() []int64 { return impl.Average(m, g).Rho })
		checkNewList(t, "Average under nothing", func() []int64 { return impl.Average(m, mustClose(t)).Rho })
		checkNewList(t, "Paint", func() []int64 { return impl.Paint(atoms, n).Rho })
		checkNewList(t, "Peaks", func() []impl.Peak { return impl.Peaks(mapOf(n, [4]int64{0, 0, 0, 3})) })
		if n <= 6 {
			checkNewList(t, "Forward", func() []int64 { return impl.Forward(m).Rho })
			checkNewList(t, "Backward", func() []int64 { return impl.Backward(m).Rho })
			checkNewList(t, "Convolve", func() []int64 { return impl.Convolve(m, m).Rho })
			checkNewList(t, "Patterson", func() []int64 { return impl.Patterson(m).Rho })
		}
		if !sameMap(m, want) {
			t.Error("shared with an argument:", m)
		}
	}
}

// wildMap: of any numbers, or a right one that may be spoilt in one thing.
func (d *dice) wildMap() impl.Map {
	m := d.drawn(smallSides()[d.between(0, 4)], []int64{2, 12288}[d.between(0, 1)])
	switch d.between(0, 7) {
	case 0:
		m.N = d.wildNumber()
	case 1:
		m.N = d.between(-1, 13)
	case 2:
		m.Rho = m.Rho[:d.between(0, int64(len(m.Rho)))]
	case 3:
		m.Rho[d.between(0, int64(len(m.Rho)-1))] = d.wildNumber()
	case 4:
		m.Rho = append(m.Rho, make([]int64, d.between(0, 2))...)
	}
	return m
}

func TestMapAnswersAtEveryArgument(t *testing.T) {
	var d dice
	right := 0
	for range 3000 {
		a, b := d.wildMap(), d.wildMap()
		small := isSmallByRule(a)
		if impl.MapOk(a) != isMapByRule(a) || isZeroMap(impl.Forward(a)) == small || isZeroMap(impl.Backward(a)) == small || isZeroMap(impl.Patterson(a)) == small {
			t.Fatal(a)
		}
		if isZeroMap(impl.Convolve(a, b)) == (small && isSmallByRule(b) && a.N == b.N) {
			t.Fatal(a, b)
		}
		if got := impl.Peaks(a); len(got) > 0 && !isMapByRule(a) {
			t.Fatal(a, got)
		}
		atoms, n := d.wildAtoms(), []int64{a.N, d.between(-1, 13), d.wildNumber(), 12}[d.between(0, 3)]
		if got := impl.Paint(atoms, n); !sameMap(got, paintByRule(atoms, n)) {
			t.Fatal(atoms, n, got)
		}
		g := []impl.Op{d.wildOp()}
		if d.between(0, 2) > 0 {
			g[0].T = []int64{6 * d.between(0, 3), 8 * d.between(0, 2), 12 * d.between(0, 1)}
			g, _ = impl.Close(g)
		}
		want := impl.Map{}
		if isMapByRule(a) && isGroupByRule(g) {
			want = averageByRule(a, g)
		}
		if got := impl.Average(a, g); !sameMap(got, want) {
			t.Fatal(a, showAll(g), got, want)
		}
		if !isZeroMap(want) {
			right++
		}
	}
	if right < 100 {
		t.Error("too few were right:", right)
	}
}

// lengthsKey names what tells a process of its own in which order it is to
// transform.
const lengthsKey = "FACET_LENGTHS"

// lengthsInTurn: lengths in their order; those with a comma between all at once.
func lengthsInTurn() []string {
	if order := os.Getenv(lengthsKey); order != "" {
		return strings.Fields(order)
	}
	return []string{"2", "6", "1", "4", "3", "6", "2", "1,2,3,4,6"}
}

func checkTransforms(t *testing.T, m impl.Map) {
	if got := impl.Forward(m); !sameMap(got, forwardByRule(m)) {
		t.Error("Forward", m, got)
	}
	if got := impl.Backward(m); !sameMap(got, backwardByRule(m)) {
		t.Error("Backward", m, got)
	}
	if got := impl.Patterson(m); !sameMap(got, pattersonByRule(m)) {
		t.Error("Patterson", m, got)
	}
	if got := impl.Convolve(m, m); !sameMap(got, convolveByRule(m, m)) {
		t.Error("Convolve", m, got)
	}
}

func TestTransformsOfLengthsInTurn(t *testing.T) {
	var d dice
	for _, together := range lengthsInTurn() {
		var all sync.WaitGroup
		for _, text := range strings.Split(together, ",") {
			n, err := strconv.ParseInt(text, 10, 64)
			if err != nil {
				t.Fatal(err)
			}
			m := d.drawn(n, 12288)
			for range 4 {
				all.Go(func() { checkTransforms(t, m) })
			}
		}
		all.Wait()
	}
}

// Every call answers the same, whatever lengths came ahead of it: each order is
// gone through by a process of its own, in which none has come yet.
func TestTransformsWhateverLengthsCameAhead(t *testing.T) {
	self, err := os.Executable()
	if err != nil {
		t.Fatal(err)
	}
	for _, order := range []string{"1 2 3 4 6", "6 4 3 2 1", "2 1 6 3 4", "3 6 2 4 1", "4 2 6 1 3", "6 12 6 3", "12 5 7 1 2", "1,2,3,4,6", "6,3,6,3 2,4 1", "4,4,4,4"} {
		run := exec.Command(self, "-test.run=^TestTransformsOfLengthsInTurn$", "-test.v")
		run.Env = append(os.Environ(), lengthsKey+"="+order)
		out, err := run.CombinedOutput()
		if err != nil || !strings.Contains(string(out), "--- PASS: TestTransformsOfLengthsInTurn") {
			t.Error(order, err, string(out))
		}
	}
}
