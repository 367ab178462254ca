package tests

import (
	"math"
	"math/cmplx"
	"runtime"
	"slices"
	"sync"
	"testing"

	"loop.example/g00055/impl"
)

func mustExact(t *testing.T, atoms []impl.Atom, h impl.Hkl) impl.Cyc {
	t.Helper()
	out, ok := impl.Exact(atoms, h)
	if !ok {
		t.Fatal(atoms, h)
	}
	return out
}

func mustSpread(t *testing.T, g []impl.Op, atoms ...impl.Atom) []impl.Atom {
	t.Helper()
	out, ok := impl.Spread(g, atoms)
	if !ok {
		t.Fatal(showAll(g), atoms)
	}
	return out
}

// evenSpaces: the known groups of which every T is even.
func evenSpaces() []space {
	return slices.DeleteFunc(spaces(), func(s space) bool { return s.name == "shifts alone" })
}

// structures: of no atom, of one, of few and of many.
func structures(d *dice) [][]impl.Atom {
	list := [][]impl.Atom{nil, {}, {{}}, {atom(11, 11, 11, 1000)}, {atom(1, 0, 0, -1000), atom(1, 0, 0, 1000)}, slices.Repeat([]impl.Atom{atom(5, 7, 11, -1000)}, 200)}
	for _, count := range []int{1, 2, 3, 4, 5, 7, 8, 9, 12, 15, 16, 17, 19, 20, 21, 60, 199, 200} {
		for _, most := range []int64{1, 7, 1000} {
			list = append(list, d.atoms(count, most))
		}
	}
	return list
}

func TestAtomsOk(t *testing.T) {
	if impl.MaxF != 1000 || impl.MaxAtoms != 200 {
		t.Error(impl.MaxF, impl.MaxAtoms)
	}
	var d dice
	right := append(structures(&d), []impl.Atom{atom(11, 0, 0, 1), atom(0, 11, 0, -1), atom(0, 0, 11, 0)}, []impl.Atom{atom(0, 0, 0, 1000), atom(0, 0, 0, -1000)})
	for _, atoms := range right {
		if !impl.AtomsOk(atoms) {
			t.Error(atoms)
		}
	}
	for _, atoms := range wrongStructures() {
		if impl.AtomsOk(atoms) {
			t.Error(atoms)
		}
	}
}

func TestExactByHand(t *testing.T) {
	salt := []impl.Atom{atom(0, 0, 0, 11), atom(0, 6, 6, 11), atom(6, 0, 6, 11), atom(6, 6, 0, 11), atom(6, 0, 0, 17), atom(0, 6, 0, 17), atom(0, 0, 6, 17), atom(6, 6, 6, 17)}
	few := []impl.Atom{atom(1, 0, 0, 2), atom(0, 2, 0, -3), atom(0, 0, 3, 5)}
	for _, c := range []struct {
		atoms []impl.Atom
		h     impl.Hkl
		want  impl.Cyc
	}{
		{nil, hkl(1, 2, 3), impl.Cyc{}},
		{[]impl.Atom{}, hkl(100, -100, 100), impl.Cyc{}},
		{[]impl.Atom{atom(0, 0, 0, 7)}, hkl(5, -6, 7), cyc(7, 0, 0, 0)},
		{[]impl.Atom{atom(1, 2, 3, 0)}, hkl(1, 1, 1), impl.Cyc{}},
		{[]impl.Atom{atom(1, 0, 0, 1)}, hkl(1, 9, 9), cyc(0, 1, 0, 0)},
		{[]impl.Atom{atom(1, 0, 0, 1)}, hkl(-1, 9, 9), cyc(0, 1, 0, -1)},
		{[]impl.Atom{atom(0, 1, 0, 1)}, hkl(9, 2, 9), cyc(0, 0, 1, 0)},
		{[]impl.Atom{atom(0, 0, 1, 1)}, hkl(9, 9, 4), cyc(-1, 0, 1, 0)},
		{[]impl.Atom{atom(1, 2, 3, -4)}, hkl(3, 1, 0), cyc(0, 4, 0, -4)},
		{few, hkl(0, 0, 0), cyc(4, 0, 0, 0)},
		{few, hkl(1, 1, 1), cyc(0, 2, -3, 5)},
		{few, hkl(-1, 2, -2), cyc(-2, 2, -3, -2)},
		{few, hkl(100, -100, 100), cyc(6, 0, -1, 0)},
		{salt, hkl(0, 0, 0), cyc(112, 0, 0, 0)},
		{salt, hkl(1, 1, 1), cyc(-24, 0, 0, 0)},
		{salt, hkl(2, 0, 0), cyc(112, 0, 0, 0)},
		{salt, hkl(1, 0, 0), impl.Cyc{}},
		{[]impl.Atom{atom(3, 0, 0, 6), atom(3, 0, 0, -6)}, hkl(1, 0, 0), impl.Cyc{}},
		{[]impl.Atom{atom(3, 0, 0, 6), atom(3, 0, 0, 6)}, hkl(1, 0, 0), cyc(0, 0, 0, 12)},
		{[]impl.Atom{atom(0, 0, 0, 1), atom(4, 0, 0, 1), atom(8, 0, 0, 1)}, hkl(1, 0, 0), impl.Cyc{}},
		{slices.Repeat([]impl.Atom{atom(5, 0, 0, -1000)}, 200), hkl(1, 0, 0), cyc(0, 200000, 0, -200000)},
		{slices.Repeat([]impl.Atom{atom(11, 11, 11, 1000)}, 200), hkl(100, 100, 100), cyc(200000, 0, 0, 0)},
		{slices.Repeat([]impl.Atom{atom(11, 11, 11, 1000)}, 200), hkl(-100, -100, -99), cyc(0, 200000, 0, -200000)},
	} {
		if got, ok := impl.Exact(c.atoms, c.h); !ok || got != c.want {
			t.Error(c.atoms, c.h, got, ok, c.want)
		}
	}
}

// reflections: of all signs, on axes, and at the limits.
func reflections(d *dice) []impl.Hkl {
	list := []impl.Hkl{hkl(0, 0, 0), hkl(1, 0, 0), hkl(0, -1, 0), hkl(100, 100, 100), hkl(-100, -100, -100), hkl(100, -100, 99), hkl(-99, 100, -100)}
	for _, most := range []int64{2, 12, 100} {
		list = append(list, d.hkl(most), d.hkl(most), d.specialHkl(most))
	}
	return list
}

func TestExactByRule(t *testing.T) {
	var d dice
	for _, atoms := range structures(&d) {
		for _, h := range reflections(&d) {
			want, _ := exactByRule(atoms, h)
			if got, ok := impl.Exact(atoms, h); !ok || got != want {
				t.Fatal(atoms, h, got, ok, want)
			}
			if cmplx.Abs(sines(want)-scatteredByRule(atoms, h)) > 1e-6 {
				t.Fatal("the rule is not what sines tell:", atoms, h, want)
			}
		}
	}
}

// P11: Exact of the opposite is the conjugate.
func TestExactOfTheOppositeIsTheConjugate(t *testing.T) {
	var d dice
	unlike := 0
	for _, atoms := range structures(&d) {
		for _, h := range reflections(&d) {
			sum, other := mustExact(t, atoms, h), mustExact(t, atoms, opposite(h))
			if other != impl.CycConj(sum) || !impl.Friedel(atoms, h) || !impl.Friedel(atoms, opposite(h)) {
				t.Fatal(atoms, h, sum, other)
			}
			if sum != other {
				unlike++
			}
		}
	}
	if unlike < 200 {
		t.Error("too few are unlike:", unlike)
	}
}

func TestFloatByHand(t *testing.T) {
	const c = 0.8660254037844386
	for _, k := range []struct {
		atoms []impl.Atom
		h     impl.Hkl
		want  impl.Cx
	}{
		{nil, hkl(1, 2, 3), impl.Cx{}},
		{[]impl.Atom{}, hkl(0, 0, 0), impl.Cx{}},
		{[]impl.Atom{atom(1, 0, 0, 1)}, hkl(1, 0, 0), impl.Cx{Re: c, Im: 0.5}},
		{[]impl.Atom{atom(1, 0, 0, 1)}, hkl(2, 0, 0), impl.Cx{Re: 0.5, Im: c}},
		{[]impl.Atom{atom(1, 0, 0, 1)}, hkl(4, 0, 0), impl.Cx{Re: -0.5, Im: c}},
		{[]impl.Atom{atom(1, 0, 0, 1)}, hkl(-5, 0, 0), impl.Cx{Re: -c, Im: -0.5}},
		{[]impl.Atom{atom(1, 0, 0, 1)}, hkl(-2, 0, 0), impl.Cx{Re: 0.5, Im: -c}},
		{[]impl.Atom{atom(0, 7, 0, -1000)}, hkl(0, 1, 0), impl.Cx{Re: 1000 * c, Im: 500}},
		{[]impl.Atom{atom(0, 0, 3, 7)}, hkl(0, 0, 1), impl.Cx{Im: 7}},
		// No nought has a minus: each lane begins with 0 and 0.
		{[]impl.Atom{atom(0, 0, 0, -3)}, hkl(1, 1, 1), impl.Cx{Re: -3}},
		{[]impl.Atom{atom(0, 0, 6, 3)}, hkl(0, 0, 1), impl.Cx{Re: -3}},
		{[]impl.Atom{atom(0, 0, 3, -7)}, hkl(0, 0, 1), impl.Cx{Im: -7}},
		{slices.Repeat([]impl.Atom{atom(0, 0, 7, 0)}, 9), hkl(0, 0, 1), impl.Cx{}},
		{[]impl.Atom{atom(1, 0, 0, 3), atom(1, 0, 0, -3)}, hkl(1, 0, 0), impl.Cx{}},
		{[]impl.Atom{atom(1, 0, 0, 3), {}, {}, {}, atom(1, 0, 0, -3)}, hkl(1, 0, 0), impl.Cx{}},
	} {
		if got := impl.Float(k.atoms, k.h); !sameCx(got, k.want) {
			t.Error(k.atoms, k.h, got, k.want)
		}
	}
}

// Of numbers of atoms that are a multiple of the lanes, and that are not.
func TestFloatByRule(t *testing.T) {
	var d dice
	unlike := 0
	check := func(atoms []impl.Atom, h impl.Hkl) {
		got := impl.Float(atoms, h)
		if !sameCx(got, floatByRule(atoms, h)) {
			t.Fatal(atoms, h, got, floatByRule(atoms, h))
		}
		if !sameCx(got, inOneLane(termsByRule(atoms, h))) {
			unlike++
		}
	}
	for count := range 34 {
		for range 10 {
			check(d.atoms(count, 1000), d.hkl(100))
		}
	}
	for _, atoms := range structures(&d) {
		for _, h := range reflections(&d) {
			check(atoms, h)
		}
	}
	if unlike < 100 {
		t.Error("too few in which the lanes matter:", unlike)
	}
}

func TestFloatIsWhatCxLanesAdds(t *testing.T) {
	var d dice
	for _, atoms := range structures(&d) {
		for _, h := range reflections(&d) {
			terms := []impl.Cx{}
			for _, a := range atoms {
				re, im := impl.CycFloat(impl.CycRoot(dot(h, [3]int64{a.X, a.Y, a.Z})))
				terms = append(terms, impl.Cx{Re: float64(a.F) * re, Im: float64(a.F) * im})
			}
			if got := impl.Float(atoms, h); !sameCx(got, impl.CxLanes(terms)) {
				t.Fatal(atoms, h, got)
			}
		}
	}
}

// P11: the same bits at every call, however the workers run.
func TestFloatTellsTheSameBitsWhateverTheWorkers(t *testing.T) {
	var d dice
	defer runtime.GOMAXPROCS(runtime.GOMAXPROCS(0))
	for _, count := range []int{1, 3, 4, 5, 18, 200} {
		atoms, h := d.atoms(count, 1000), d.hkl(100)
		want := floatByRule(atoms, h)
		for _, workers := range []int{1, 2, 3, 8} {
			runtime.GOMAXPROCS(workers)
			for range 100 {
				if got := impl.Float(atoms, h); !sameCx(got, want) {
					t.Fatal(count, workers, got, want)
				}
			}
		}
	}
}

func TestFloatOfManyCallsAtOnce(t *testing.T) {
	var d dice
	const calls = 40
	atoms := make([][]impl.Atom, calls)
	got := make([]impl.Cx, calls)
	h := hkl(1, -2, 3)
	var all sync.WaitGroup
	for i := range calls {
		atoms[i] = d.atoms(i, 1000)
		all.Go(func() { got[i] = impl.Float(atoms[i], h) })
	}
	all.Wait()
	for i := range calls {
		if !sameCx(got[i], floatByRule(atoms[i], h)) {
			t.Error(atoms[i], got[i])
		}
	}
}

// P11: within a millionth, for at most 20 atoms.
func TestFloatIsNextToExact(t *testing.T) {
	var d dice
	for count := range 21 {
		for range 40 {
			atoms, h := d.atoms(count, 1000), d.hkl(100)
			re, im := impl.CycFloat(mustExact(t, atoms, h))
			got := impl.Float(atoms, h)
			if max(math.Abs(got.Re-re), math.Abs(got.Im-im)) > 1e-6 {
				t.Fatal(atoms, h, got, re, im)
			}
			if cmplx.Abs(complex(got.Re, got.Im)-scatteredByRule(atoms, h)) > 1e-6 {
				t.Fatal(atoms, h, got)
			}
		}
	}
	great := slices.Repeat([]impl.Atom{atom(5, 7, 11, -1000)}, 20)
	re, im := impl.CycFloat(mustExact(t, great, hkl(1, 1, 1)))
	if got := impl.Float(great, hkl(1, 1, 1)); max(math.Abs(got.Re-re), math.Abs(got.Im-im)) > 1e-6 || math.Abs(im) < 1000 && math.Abs(re) < 1000 {
		t.Error(got, re, im)
	}
}

func TestPowerByHand(t *testing.T) {
	for _, c := range []struct {
		atoms []impl.Atom
		h     impl.Hkl
		want  impl.Cyc
	}{
		{nil, hkl(1, 2, 3), impl.Cyc{}},
		{[]impl.Atom{atom(5, 7, 2, -9)}, hkl(1, 2, 3), cyc(81, 0, 0, 0)},
		{[]impl.Atom{atom(0, 0, 0, 1), atom(1, 0, 0, 1)}, hkl(1, 0, 0), cyc(2, 2, 0, -1)},
		{[]impl.Atom{atom(0, 0, 0, 1), atom(1, 0, 0, 1)}, hkl(5, 0, 0), cyc(2, -2, 0, 1)},
		{[]impl.Atom{atom(0, 0, 0, 1), atom(1, 0, 0, 1)}, hkl(6, 0, 0), impl.Cyc{}},
		{[]impl.Atom{atom(0, 0, 0, 5), atom(6, 6, 0, 3), atom(3, 0, 0, 1)}, hkl(1, 0, 0), cyc(5, 0, 0, 0)},
		{slices.Repeat([]impl.Atom{atom(1, 1, 1, 1000)}, 200), hkl(1, 0, 0), cyc(40000000000, 0, 0, 0)},
		{append(slices.Repeat([]impl.Atom{atom(1, 0, 0, 1000)}, 100), slices.Repeat([]impl.Atom{atom(0, 0, 0, 1000)}, 100)...), hkl(1, 0, 0), cyc(20000000000, 20000000000, 0, -10000000000)},
	} {
		if got, ok := impl.Power(c.atoms, c.h); !ok || got != c.want {
			t.Error(c.atoms, c.h, got, ok, c.want)
		}
	}
}

func TestPowerByRule(t *testing.T) {
	var d dice
	for _, atoms := range structures(&d) {
		for _, h := range reflections(&d) {
			sum, _ := exactByRule(atoms, h)
			want, wantOk := cycMulByRule(sum, cycConjByRule(sum))
			got, ok := impl.Power(atoms, h)
			if !ok || !wantOk || got != want {
				t.Fatal(atoms, h, got, ok, want)
			}
			p, q, ok := impl.CycReal(got)
			if other, _ := impl.Power(atoms, opposite(h)); !ok || impl.RealSign(p, q) < 0 || other != got {
				t.Fatal(atoms, h, got)
			}
		}
	}
}

func TestWrongStructures(t *testing.T) {
	right := []impl.Atom{atom(1, 2, 3, 4), atom(11, 10, 9, 4)}
	still := mustClose(t)
	for _, atoms := range wrongStructures() {
		checkNoFactor(t, atoms, hkl(0, 0, 0))
		checkNoFactor(t, atoms, hkl(1, -2, 3))
		checkNoFactor(t, atoms, hkl(101, 0, 0))
		if got, ok := impl.Spread(still, atoms); ok || len(got) != 0 {
			t.Error(atoms, got, ok)
		}
		if impl.Signed(atoms) {
			t.Error(atoms)
		}
	}
	for _, h := range wrongHkls() {
		checkNoFactor(t, right, h)
		checkNoFactor(t, nil, h)
	}
}

func checkNoFactor(t *testing.T, atoms []impl.Atom, h impl.Hkl) {
	t.Helper()
	if got, ok := impl.Exact(atoms, h); ok || got != (impl.Cyc{}) {
		t.Error("Exact", atoms, h, got, ok)
	}
	if got := impl.Float(atoms, h); !sameCx(got, impl.Cx{}) {
		t.Error("Float", atoms, h, got)
	}
	if got, ok := impl.Power(atoms, h); ok || got != (impl.Cyc{}) {
		t.Error("Power", atoms, h, got, ok)
	}
	if impl.Friedel(atoms, h) {
		t.Error("Friedel", atoms, h)
	}
}

func TestSpreadByHand(t *testing.T) {
	for _, c := range []struct {
		group       string
		atoms, want []impl.Atom
	}{
		{"P1", nil, nil},
		{"Fm-3m", []impl.Atom{}, nil},
		{"P1", []impl.Atom{atom(3, 2, 1, 5), atom(1, 2, 3, 4)}, []impl.Atom{atom(3, 2, 1, 5), atom(1, 2, 3, 4)}},
		{"P1", []impl.Atom{atom(3, 2, 1, 5), atom(3, 2, 1, 5)}, []impl.Atom{atom(3, 2, 1, 5)}},
		{"P1", []impl.Atom{atom(3, 2, 1, 5), atom(3, 2, 1, 6), atom(3, 2, 1, 5)}, []impl.Atom{atom(3, 2, 1, 5), atom(3, 2, 1, 6)}},
		{"P-1", []impl.Atom{atom(11, 2, 3, 5)}, []impl.Atom{atom(1, 10, 9, 5), atom(11, 2, 3, 5)}},
		{"P-1", []impl.Atom{atom(6, 0, 6, -5)}, []impl.Atom{atom(6, 0, 6, -5)}},
		{"P-1", []impl.Atom{atom(1, 0, 0, 2), atom(11, 0, 0, 2), atom(0, 0, 0, 7)}, []impl.Atom{atom(1, 0, 0, 2), atom(11, 0, 0, 2), atom(0, 0, 0, 7)}},
		{"P-1", []impl.Atom{atom(1, 0, 0, 2), atom(11, 0, 0, 3)}, []impl.Atom{atom(1, 0, 0, 2), atom(11, 0, 0, 2), atom(1, 0, 0, 3), atom(11, 0, 0, 3)}},
		{"P-1", []impl.Atom{atom(1, 0, 0, 0), atom(0, 0, 0, 0), atom(11, 0, 0, 0)}, []impl.Atom{atom(1, 0, 0, 0), atom(11, 0, 0, 0), atom(0, 0, 0, 0)}},
		{"P21", []impl.Atom{atom(1, 2, 3, 4)}, []impl.Atom{atom(1, 2, 3, 4), atom(11, 8, 9, 4)}},
		{"P41", []impl.Atom{atom(0, 0, 11, 1)}, []impl.Atom{atom(0, 0, 2, 1), atom(0, 0, 5, 1), atom(0, 0, 8, 1), atom(0, 0, 11, 1)}},
		{"P31", []impl.Atom{atom(1, 0, 0, 9)}, []impl.Atom{atom(0, 1, 4, 9), atom(1, 0, 0, 9), atom(11, 11, 8, 9)}},
		{"Fm-3m", []impl.Atom{atom(6, 6, 6, 17), atom(6, 6, 0, 11)}, []impl.Atom{
			atom(0, 0, 6, 17), atom(0, 6, 0, 17), atom(6, 0, 0, 17), atom(6, 6, 6, 17), atom(0, 0, 0, 11), atom(0, 6, 6, 11), atom(6, 0, 6, 11), atom(6, 6, 0, 11),
		}},
	} {
		if got, ok := impl.Spread(spaceGroup(t, c.group), c.atoms); !ok || !slices.Equal(got, c.want) {
			t.Error(c.group, c.atoms, got, ok)
		}
	}
}

// checkSpread holds a spread against the rule, and tells whether there is one.
func checkSpread(t *testing.T, g []impl.Op, atoms []impl.Atom) bool {
	t.Helper()
	want, wantOk := spreadByRule(g, atoms)
	got, ok := impl.Spread(g, atoms)
	if ok != wantOk || !slices.Equal(got, want) {
		t.Fatal(showAll(g), atoms, got, ok, want, wantOk)
	}
	if again, okAgain := impl.Spread(g, got); ok && (!okAgain || len(again) != len(got)) {
		t.Fatal("not its own:", showAll(g), got, again)
	}
	return ok
}

func TestSpreadByRule(t *testing.T) {
	var d dice
	right, wrong := 0, 0
	for _, s := range spaces() {
		g := mustClose(t, s.gens...)
		for i := range 12 {
			atoms := d.atoms(i, 2)
			if s.order > 16 {
				atoms = []impl.Atom{d.specialAtom(1), d.specialAtom(1), d.atom(1)}[:i%4]
			}
			if checkSpread(t, g, atoms) {
				right++
			} else {
				wrong++
			}
		}
	}
	if right < 150 || wrong < 12 {
		t.Error(right, wrong)
	}
}

func TestSpreadTakesMaxAtomsAndNoMore(t *testing.T) {
	pairs := []impl.Atom{}
	for n := range int64(100) {
		pairs = append(pairs, atom(1+n/25, n/5%5, n%5, 3))
	}
	general := []impl.Atom{atom(1, 2, 3, 1), atom(0, 0, 0, 1), atom(6, 6, 6, 1)}
	for _, c := range []struct {
		group string
		atoms []impl.Atom
		want  int
	}{
		{"P1", slices.Repeat([]impl.Atom{atom(1, 2, 3, 4)}, 200), 1},
		{"P1", pairs, 100},
		{"P1", append(slices.Clone(pairs), pairs...), 100},
		{"P-1", pairs, 200},
		{"P-1", append(slices.Clone(pairs), pairs...), 200},
		{"P-1", append([]impl.Atom{atom(0, 0, 0, 3)}, pairs[1:]...), 199},
		{"P-1", append([]impl.Atom{atom(0, 0, 0, 3), atom(0, 0, 0, 4)}, pairs[1:]...), 200},
		{"P-1", append(slices.Clone(pairs), atom(8, 8, 8, 3), pairs[0]), 200},
		{"P-1", append(slices.Clone(pairs), atom(6, 8, 8, 3), pairs[0]), -1},
		{"P-1", append(slices.Clone(pairs), atom(0, 0, 0, 3)), -1},
		{"P-1", append([]impl.Atom{atom(0, 0, 0, 3)}, pairs...), -1},
		{"P-1", append([]impl.Atom{atom(0, 0, 0, 3), atom(0, 6, 0, 3), atom(6, 6, 6, 3)}, pairs[1:]...), -1},
		{"Fm-3m", general, 200},
		{"Fm-3m", append(slices.Clone(general), atom(6, 0, 0, 1), atom(6, 6, 0, 1), atom(3, 2, 1, 1)), 200},
		{"Fm-3m", append(slices.Clone(general), atom(6, 0, 0, 2)), -1},
		{"Fm-3m", append(slices.Clone(general), atom(3, 3, 3, 1)), -1},
		{"Fm-3m", []impl.Atom{atom(1, 2, 3, 1), atom(1, 2, 3, 2)}, -1},
	} {
		got, ok := impl.Spread(spaceGroup(t, c.group), c.atoms)
		if ok != (c.want >= 0) || len(got) != max(c.want, 0) {
			t.Error(c.group, len(c.atoms), c.want, len(got), ok)
		}
		checkSpread(t, spaceGroup(t, c.group), c.atoms)
	}
}

func TestSpreadWantsEvenShifts(t *testing.T) {
	right := []impl.Atom{atom(1, 2, 3, 4)}
	for _, gens := range [][]string{{"x+1/24,y,z"}, {"x,y+1/8,z"}, {"x,y,z+1/24"}, {"-x+1/24,-y,-z"}, {"-x,-y+3/8,z"}, {"x,-y,-z+23/24"}, {"-y,x,z+1/8"}} {
		g := mustClose(t, gens...)
		for _, atoms := range [][]impl.Atom{right, {{}}, nil} {
			if got, ok := impl.Spread(g, atoms); ok || len(got) != 0 {
				t.Error(gens, atoms, got, ok)
			}
		}
	}
	for _, gens := range [][]string{{"x+1/12,y,z"}, {"x,y+5/12,z"}, {"x,y,z+11/12"}, {"-x+1/12,-y,-z"}, {"x,-y,-z+11/12"}} {
		if g := mustClose(t, gens...); !checkSpread(t, g, right) || !checkSpread(t, g, nil) {
			t.Error(gens)
		}
	}
}

func TestSpreadOfWhatIsNoGroup(t *testing.T) {
	for name, no := range notGroups(t) {
		for _, atoms := range [][]impl.Atom{nil, {{}}, {atom(1, 2, 3, 4)}} {
			if got, ok := impl.Spread(no, atoms); ok || len(got) != 0 {
				t.Error(name, atoms, got, ok)
			}
		}
	}
}

// spreadOf draws structures until the group has room for one that is not empty.
func (d *dice) spreadOf(t *testing.T, g []impl.Op) []impl.Atom {
	t.Helper()
	for range 100 {
		count := max(1, 120/len(g))
		if got, ok := impl.Spread(g, d.atoms(int(d.between(1, int64(count))), 20)); ok {
			return got
		}
	}
	t.Fatal(showAll(g))
	return nil
}

// P8: what an Op forbids no structure scatters that the group has spread; and
// what is not extinct some structure does.
func TestExactOfExtinctReflectionsIsNought(t *testing.T) {
	var d dice
	dark, light := 0, 0
	for _, s := range evenSpaces() {
		g := mustClose(t, s.gens...)
		for i := range 30 {
			h := d.specialHkl(3)
			if i%3 == 0 {
				h = d.hkl(2)
			}
			extinct := impl.Extinct(g, h)
			seen := false
			for range 12 {
				seen = seen || mustExact(t, d.spreadOf(t, g), h) != impl.Cyc{}
			}
			if extinct != extinctByRule(g, h) || seen == extinct {
				t.Error(s.name, h, extinct, seen)
			}
			if extinct {
				dark++
			} else {
				light++
			}
		}
	}
	if dark < 80 || light < 80 {
		t.Error(dark, light)
	}
}

func TestExactOfExtinctReflectionsOfAllSizes(t *testing.T) {
	var d dice
	dark := 0
	for _, s := range evenSpaces() {
		g := mustClose(t, s.gens...)
		atoms := d.spreadOf(t, g)
		for _, most := range []int64{1, 12, 100} {
			for range 30 {
				h := d.specialHkl(most)
				if impl.Extinct(g, h) {
					dark++
					if got := mustExact(t, atoms, h); got != (impl.Cyc{}) {
						t.Error(s.name, h, got)
					}
				}
			}
		}
	}
	if dark < 300 {
		t.Error(dark)
	}
}

// P8: those of a family differ by the told phase, of which a twelfth has two.
func TestExactOfAFamilyDiffersByTheToldPhase(t *testing.T) {
	var d dice
	turned := 0
	for _, s := range evenSpaces() {
		g := mustClose(t, s.gens...)
		for i := range 8 {
			atoms := d.spreadOf(t, g)
			h := d.hkl([]int64{3, 40, 50}[i%3])
			whole := mustExact(t, atoms, h)
			for _, f := range impl.Family(g, h) {
				other := mustExact(t, atoms, hkl(f.H, f.K, f.L))
				if f.Phase%2 != 0 || mustMul(t, impl.CycRoot(f.Phase/2), other) != whole {
					t.Fatal(s.name, atoms, h, f, whole, other)
				}
				if whole != other {
					turned++
				}
			}
		}
	}
	if turned < 100 {
		t.Error("too few are turned:", turned)
	}
}

func TestFriedel(t *testing.T) {
	for _, atoms := range [][]impl.Atom{nil, {{}}, {atom(1, 2, 3, 4)}, {atom(1, 0, 0, 1), atom(0, 5, 0, -7)}, slices.Repeat([]impl.Atom{atom(7, 5, 1, 1000)}, 200)} {
		for _, h := range []impl.Hkl{hkl(0, 0, 0), hkl(1, 2, 3), hkl(-1, 2, -3), hkl(100, 100, -100), hkl(-100, -100, -100)} {
			if !impl.Friedel(atoms, h) {
				t.Error(atoms, h)
			}
		}
	}
}

func TestRingsByHand(t *testing.T) {
	const m = impl.MaxForm
	for _, c := range []struct {
		f    impl.Form
		most int64
		want []impl.Ring
	}{
		{impl.Form{A: 1, B: 0, C: 1}, 0, nil},
		{impl.Form{A: 1, B: 0, C: 1}, 1, []impl.Ring{{Q: 1, Count: 4}}},
		{impl.Form{A: 1, B: 0, C: 1}, 5, []impl.Ring{{Q: 1, Count: 4}, {Q: 2, Count: 4}, {Q: 4, Count: 4}, {Q: 5, Count: 8}}},
		{impl.Form{A: 2, B: 1, C: 2}, 1, nil},
		{impl.Form{A: 2, B: 1, C: 2}, 6, []impl.Ring{{Q: 2, Count: 6}, {Q: 6, Count: 6}}},
		{impl.Form{A: 2, B: -1, C: 2}, 14, []impl.Ring{{Q: 2, Count: 6}, {Q: 6, Count: 6}, {Q: 8, Count: 6}, {Q: 14, Count: 12}}},
		{impl.Form{A: 5, B: 1, C: 7}, 4, nil},
		{impl.Form{A: 5, B: 1, C: 7}, 5, []impl.Ring{{Q: 5, Count: 2}}},
		{impl.Form{A: 5, B: 1, C: 7}, 14, []impl.Ring{{Q: 5, Count: 2}, {Q: 7, Count: 2}, {Q: 10, Count: 2}, {Q: 14, Count: 2}}},
		{impl.Form{A: m, B: 0, C: m}, m, []impl.Ring{{Q: m, Count: 4}}},
		{impl.Form{A: m, B: 0, C: m}, m - 1, nil},
		{impl.Form{A: m, B: 0, C: m}, m + 1, nil},
		{impl.Form{A: 1, B: 0, C: 1}, m, nil},
		{impl.Form{A: 1, B: 0, C: 1}, -1, nil},
		{impl.Form{A: 1, B: 0, C: 1}, math.MaxInt64, nil},
		{impl.Form{A: 1, B: 0, C: 1}, math.MinInt64, nil},
	} {
		if got := impl.Rings(c.f, c.most); !slices.Equal(got, c.want) {
			t.Error(c.f, c.most, got, c.want)
		}
	}
	for _, f := range wrongForms() {
		for _, most := range []int64{0, 1, 100, m} {
			if got := impl.Rings(f, most); len(got) != 0 {
				t.Error(f, most, got)
			}
		}
	}
}

func TestRingsByRule(t *testing.T) {
	var d dice
	one, several, none := 0, 0, 0
	for range 300 {
		f, most := d.form(12), d.between(0, 150)
		if d.between(0, 3) == 0 {
			most = d.between(0, 1500)
		}
		got := impl.Rings(f, most)
		if !slices.Equal(got, ringsByRule(f, most)) {
			t.Fatal(f, most, got)
		}
		if len(got) == 0 {
			none++
		}
		for _, r := range got {
			if r.Count == 2 {
				one++
			} else {
				several++
			}
		}
	}
	if one < 100 || several < 100 || none < 5 {
		t.Error(one, several, none)
	}
}

func TestRingsWhereShortsIsFull(t *testing.T) {
	const n = impl.MaxShorts
	f := impl.Form{A: 1, B: 0, C: impl.MaxForm}
	got := impl.Rings(f, n*n)
	if len(got) != n {
		t.Fatal(len(got))
	}
	for i, r := range got {
		if k := int64(i + 1); r != (impl.Ring{Q: k * k, Count: 2}) {
			t.Error(i, r)
		}
	}
	if got := impl.Rings(f, (n+1)*(n+1)); len(got) != 0 {
		t.Error(got)
	}
}

func TestSignedByHand(t *testing.T) {
	for _, c := range []struct {
		atoms []impl.Atom
		want  bool
	}{
		{nil, true},
		{[]impl.Atom{}, true},
		{[]impl.Atom{{}}, true},
		{[]impl.Atom{atom(6, 0, 6, -5)}, true},
		{[]impl.Atom{atom(6, 6, 6, 1000), atom(6, 6, 6, 1000), atom(0, 6, 0, 3)}, true},
		{[]impl.Atom{atom(1, 0, 0, 1)}, false},
		{[]impl.Atom{atom(0, 3, 0, 1)}, false},
		{[]impl.Atom{atom(0, 0, 11, 1)}, false},
		{[]impl.Atom{atom(1, 0, 0, 0)}, false},
		{[]impl.Atom{atom(1, 2, 3, 4), atom(11, 10, 9, 4)}, true},
		{[]impl.Atom{atom(1, 2, 3, 0), atom(11, 10, 9, 0)}, true},
		{[]impl.Atom{atom(1, 2, 3, -1000), atom(11, 10, 9, -1000)}, true},
		{[]impl.Atom{atom(1, 2, 3, 4), atom(11, 10, 9, 5)}, false},
		{[]impl.Atom{atom(1, 2, 3, 4), atom(11, 10, 9, -4)}, false},
		{[]impl.Atom{atom(1, 2, 3, 4), atom(11, 10, 3, 4)}, false},
		{[]impl.Atom{atom(1, 2, 3, 4), atom(1, 2, 3, 4), atom(11, 10, 9, 4)}, false},
		{[]impl.Atom{atom(1, 2, 3, 4), atom(11, 10, 9, 4), atom(11, 10, 9, 4)}, false},
		{[]impl.Atom{atom(1, 2, 3, 4), atom(11, 10, 9, 4), atom(11, 10, 9, 4), atom(1, 2, 3, 4)}, true},
		{[]impl.Atom{atom(1, 2, 3, 4), atom(11, 10, 9, 4), atom(11, 10, 9, 5), atom(1, 2, 3, 5)}, true},
		{[]impl.Atom{atom(1, 2, 3, 4), atom(11, 10, 9, 4), atom(11, 10, 9, 5), atom(1, 2, 3, 6)}, false},
		// These scatter as a signed one does, but each has to have its own.
		{[]impl.Atom{atom(1, 2, 3, 4), atom(1, 2, 3, -4)}, false},
		{[]impl.Atom{atom(1, 2, 3, 4), atom(1, 2, 3, 5), atom(11, 10, 9, 9)}, false},
		{slices.Repeat([]impl.Atom{atom(0, 0, 0, 1)}, 200), true},
		{slices.Repeat([]impl.Atom{atom(0, 0, 0, 1)}, 201), false},
		{slices.Repeat([]impl.Atom{atom(1, 0, 5, 1), atom(11, 0, 7, 1)}, 100), true},
		{[]impl.Atom{atom(0, 0, 0, 1001)}, false},
		{[]impl.Atom{atom(1, 0, 0, 2000), atom(11, 0, 0, 2000)}, false},
		{[]impl.Atom{atom(-1, 0, 0, 2), atom(1, 0, 0, 2)}, false},
		{[]impl.Atom{atom(12, 0, 0, 2)}, false},
	} {
		if got := impl.Signed(c.atoms); got != c.want || got != signedByRule(c.atoms) {
			t.Error(c.atoms, got)
		}
	}
}

// What Signed tells has sums that are their own conjugates, all of them.
func TestSignedByRule(t *testing.T) {
	var d dice
	yes, no := 0, 0
	for i := range 600 {
		atoms := d.atoms(i%40, 2)
		for _, a := range slices.Clone(atoms) {
			atoms = append(atoms, across(a))
		}
		if i%3 == 0 && len(atoms) > 0 {
			k := d.between(0, int64(len(atoms)-1))
			atoms[k] = atoms[d.between(0, int64(len(atoms)-1))]
		}
		want := signedByRule(atoms)
		if got := impl.Signed(atoms); got != want {
			t.Fatal(atoms, got)
		}
		if !want {
			no++
			continue
		}
		yes++
		for _, h := range []impl.Hkl{d.hkl(3), d.hkl(100)} {
			if _, _, ok := impl.CycReal(mustExact(t, atoms, h)); !ok {
				t.Fatal(atoms, h)
			}
		}
	}
	if yes < 300 || no < 100 {
		t.Error(yes, no)
	}
}

func TestFactorArgumentsStay(t *testing.T) {
	g, guard := withRoom(mustClose(t, "-y,x,z+1/4", "x,y,-z"))
	for _, room := range [][]impl.Atom{
		{atom(3, 2, 1, 5), atom(1, 2, 3, 4), atom(3, 2, 1, 5), atom(0, 0, 0, -7), atom(7, 7, 7, 7), atom(8, 8, 8, 8), atom(9, 9, 9, 9)},
		{atom(3, 2, 1, 5), atom(1, 12, 3, 4), atom(3, 2, 1, 5), atom(0, 0, 0, -7), atom(7, 7, 7, 7)},
	} {
		atoms, want := room[:4], slices.Clone(room)
		for _, ops := range [][]impl.Op{g, g[1:], nil} {
			spread, _ := impl.Spread(ops, atoms)
			for i := range spread {
				spread[i] = atom(-9, -9, -9, -9)
			}
		}
		for _, h := range []impl.Hkl{hkl(1, 2, 3), hkl(101, 0, 0)} {
			impl.AtomsOk(atoms)
			impl.Exact(atoms, h)
			impl.Float(atoms, h)
			impl.Power(atoms, h)
			impl.Friedel(atoms, h)
			impl.Signed(atoms)
		}
		if !slices.Equal(room, want) || !guard() {
			t.Error(room, want, g)
		}
	}
}

// What lies behind a list's length is not of it.
func TestFactorLeavesOutWhatLiesBehind(t *testing.T) {
	room := []impl.Atom{atom(1, 2, 3, 4), atom(11, 10, 9, 4), atom(12, 0, 0, 5), atom(0, 0, 0, 9999)}
	atoms, h := room[:2], hkl(1, 1, 1)
	if !impl.AtomsOk(atoms) || !impl.Signed(atoms) || impl.Signed(room[:1]) || !impl.Friedel(atoms, h) {
		t.Error(atoms)
	}
	if got := mustExact(t, atoms, h); got != cyc(-8, 0, 0, 0) {
		t.Error(got)
	}
	if got := impl.Float(atoms, h); !sameCx(got, impl.Cx{Re: -8}) {
		t.Error(got)
	}
	if got, ok := impl.Power(atoms, h); !ok || got != cyc(64, 0, 0, 0) {
		t.Error(got, ok)
	}
	if got := mustSpread(t, mustClose(t), atoms...); !slices.Equal(got, atoms) {
		t.Error(got)
	}
}

func TestFactorAnswersAreNewMemory(t *testing.T) {
	g := mustClose(t, "-y,x,z+1/4", "x,y,-z")
	atoms := []impl.Atom{atom(3, 2, 1, 5), atom(1, 2, 3, 4)}
	want := slices.Clone(atoms)
	checkNewList(t, "Spread", func() []impl.Atom { return mustSpread(t, g, atoms...) })
	checkNewList(t, "Spread by nothing", func() []impl.Atom { got, _ := impl.Spread(mustClose(t), atoms); return got })
	checkNewList(t, "Rings", func() []impl.Ring { return impl.Rings(impl.Form{A: 2, B: 1, C: 2}, 30) })
	if !slices.Equal(atoms, want) {
		t.Error("shared with an argument:", atoms)
	}
}

func (d *dice) wildAtoms() []impl.Atom {
	atoms := d.atoms(int(d.between(0, 8)), 1002)
	if len(atoms) > 0 && d.between(0, 2) == 0 {
		k := d.between(0, int64(len(atoms)-1))
		all := []*int64{&atoms[k].X, &atoms[k].Y, &atoms[k].Z, &atoms[k].F}
		*all[d.between(0, 3)] = d.wildNumber()
	}
	return atoms
}

func TestFactorAnswersAtEveryArgument(t *testing.T) {
	var d dice
	right := 0
	for range 4000 {
		atoms, h := d.wildAtoms(), d.hkl(101)
		if d.between(0, 3) == 0 {
			h = hkl(d.wildNumber(), d.wildNumber(), d.wildNumber())
		}
		want, ok := exactByRule(atoms, h)
		if got, gotOk := impl.Exact(atoms, h); got != want || gotOk != ok {
			t.Fatal(atoms, h, got, gotOk)
		}
		if _, gotOk := impl.Power(atoms, h); gotOk != ok || impl.Friedel(atoms, h) != ok || !sameCx(impl.Float(atoms, h), floatByRule(atoms, h)) {
			t.Fatal(atoms, h)
		}
		if impl.AtomsOk(atoms) != isStructureByRule(atoms) || impl.Signed(atoms) != signedByRule(atoms) {
			t.Fatal(atoms)
		}
		g := []impl.Op{}
		for range d.between(0, 2) {
			g = append(g, d.wildOp())
		}
		if d.between(0, 1) == 0 {
			g, _ = impl.Close(g[:min(len(g), 1)])
		}
		if checkSpread(t, g, atoms) && ok {
			right++
		}
		impl.Rings(impl.Form{A: d.wildNumber(), B: d.wildNumber(), C: d.wildNumber()}, d.wildNumber())
	}
	if right < 300 {
		t.Error("too few were right:", right)
	}
}
