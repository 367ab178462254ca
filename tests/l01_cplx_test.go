package tests

import (
	"math"
	"testing"

	"loop.example/g00055/impl"
)

func minusNought() float64 { return math.Copysign(0, -1) }

// pairs: each edge with a choice of edges, and numbers of all kinds.
func pairs() [][2]impl.Cx {
	var list [][2]impl.Cx
	edges := edgeNumbers()
	for i, a := range edges {
		for k := i % 11; k < len(edges); k += 11 {
			list = append(list, [2]impl.Cx{a, edges[k]})
		}
	}
	d := dice(1)
	for range 4000 {
		list = append(list, [2]impl.Cx{d.nearCx(), d.nearCx()}, [2]impl.Cx{d.anyCx(), d.anyCx()})
	}
	return list
}

func TestCxMulByHand(t *testing.T) {
	inf, nan, none := math.Inf(1), math.NaN(), minusNought()
	for _, c := range []struct{ a, b, want impl.Cx }{
		{impl.Cx{Re: 1, Im: 2}, impl.Cx{Re: 3, Im: -1}, impl.Cx{Re: 5, Im: 5}},
		{impl.Cx{Re: 0, Im: 1}, impl.Cx{Re: 0, Im: 1}, impl.Cx{Re: -1, Im: 0}},
		{impl.Cx{}, impl.Cx{}, impl.Cx{}},
		{impl.Cx{Re: none, Im: none}, impl.Cx{Re: 1, Im: 1}, impl.Cx{Re: 0, Im: none}},
		{impl.Cx{Re: none}, impl.Cx{Re: 1}, impl.Cx{Re: none, Im: 0}},
		{impl.Cx{Re: inf}, impl.Cx{Re: 1}, impl.Cx{Re: inf, Im: nan}},
		{impl.Cx{Re: inf, Im: inf}, impl.Cx{Re: 1, Im: 1}, impl.Cx{Re: nan, Im: inf}},
		{impl.Cx{Re: nan}, impl.Cx{Re: 1}, impl.Cx{Re: nan, Im: nan}},
		{impl.Cx{Re: 1e200, Im: 1e200}, impl.Cx{Re: 1e200, Im: -1e200}, impl.Cx{Re: inf, Im: nan}},
		// the square 1 + 2^-26 + 2^-54 loses its last part only when it is rounded by itself
		{impl.Cx{Re: 1 + 0x1p-27, Im: 1}, impl.Cx{Re: 1 + 0x1p-27, Im: 1 + 0x1p-26}, impl.Cx{Re: 0, Im: 2 + 0x1p-25}},
	} {
		if got := impl.CxMul(c.a, c.b); !sameCx(got, c.want) {
			t.Error(c.a, "times", c.b, "is", got, "not", c.want)
		}
	}
}

func TestCxMulRoundsEachOperation(t *testing.T) {
	for _, p := range pairs() {
		if got, want := impl.CxMul(p[0], p[1]), mulByRule(p[0], p[1], 64); !sameCx(got, want) {
			t.Fatal(p[0], "times", p[1], "is", got, "not", want)
		}
	}
}

func TestCxMulEitherWayRound(t *testing.T) {
	for _, p := range pairs() {
		if x, y := impl.CxMul(p[0], p[1]), impl.CxMul(p[1], p[0]); !sameCx(x, y) {
			t.Fatal(p, x, y)
		}
	}
}

func TestCxMulByConjugateHasNoIm(t *testing.T) {
	finite := 0
	check := func(a impl.Cx) {
		p := impl.CxMul(a, impl.CxConj(a))
		if x := p.Re + p.Im; math.IsNaN(x) || math.IsInf(x, 0) {
			return
		}
		finite++
		if p.Im != 0 {
			t.Error(a, p)
		}
	}
	for _, a := range edgeNumbers() {
		check(a)
	}
	d := dice(2)
	for range 5000 {
		check(d.nearCx())
	}
	if finite < 5500 {
		t.Error("only", finite, "products were finite")
	}
}

func TestCxConj(t *testing.T) {
	check := func(a impl.Cx) {
		want := impl.Cx{Re: a.Re, Im: math.Copysign(a.Im, flipped(a.Im))}
		if got := impl.CxConj(a); !sameCx(got, want) {
			t.Error(a, got)
		}
		if twice := impl.CxConj(impl.CxConj(a)); !sameCx(twice, a) {
			t.Error("twice", a, twice)
		}
	}
	for _, a := range edgeNumbers() {
		check(a)
	}
	d := dice(3)
	for range 2000 {
		check(d.anyCx())
	}
}

func TestCxDivByHand(t *testing.T) {
	inf, nan, none := math.Inf(1), math.NaN(), minusNought()
	for _, c := range []struct{ a, b, want impl.Cx }{
		{impl.Cx{Re: 5, Im: 5}, impl.Cx{Re: 3, Im: -1}, impl.Cx{Re: 1, Im: 2}},
		{impl.Cx{Re: 1, Im: 1}, impl.Cx{}, impl.Cx{Re: nan, Im: nan}},
		{impl.Cx{}, impl.Cx{}, impl.Cx{Re: nan, Im: nan}},
		{impl.Cx{Re: 1}, impl.Cx{Re: 1e-200}, impl.Cx{Re: inf, Im: nan}},
		{impl.Cx{Re: 1}, impl.Cx{Re: inf}, impl.Cx{Re: nan, Im: nan}},
		{impl.Cx{Re: inf}, impl.Cx{Re: 2}, impl.Cx{Re: inf, Im: nan}},
		{impl.Cx{Re: 1e200}, impl.Cx{Re: 1e200}, impl.Cx{Re: nan, Im: 0}},
		{impl.Cx{Re: 1}, impl.Cx{Re: 1, Im: 0}, impl.Cx{Re: 1, Im: 0}},
		{impl.Cx{Re: none, Im: none}, impl.Cx{Re: 1, Im: none}, impl.Cx{Re: 0, Im: none}},
	} {
		if got := impl.CxDiv(c.a, c.b); !sameCx(got, c.want) {
			t.Error(c.a, "by", c.b, "is", got, "not", c.want)
		}
	}
}

func TestCxDivRoundsEachOperation(t *testing.T) {
	for _, p := range pairs() {
		if got, want := impl.CxDiv(p[0], p[1]), divByRule(p[0], p[1]); !sameCx(got, want) {
			t.Fatal(p[0], "by", p[1], "is", got, "not", want)
		}
	}
}

// floatsInOrder: a row of floats as the document orders them, those of one
// stretch the same.
func floatsInOrder() [][]float64 {
	return [][]float64{
		{math.Inf(-1)}, {-math.MaxFloat64}, {-2}, {math.Nextafter(-1, -2)}, {-1},
		{-0x1p-1022}, {-math.SmallestNonzeroFloat64}, {minusNought()}, {0},
		{math.SmallestNonzeroFloat64}, {0x1p-1022}, {1}, {math.Nextafter(1, 2)}, {2},
		{math.MaxFloat64}, {math.Inf(1)},
		{
			math.NaN(), math.Copysign(math.NaN(), -1), math.Float64frombits(0x7ff0000000000001),
			math.Float64frombits(0x7fffffffffffffff), math.Float64frombits(0xffffffffffffffff),
		},
	}
}

func sign(n int) int64 {
	switch {
	case n < 0:
		return -1
	case n > 0:
		return 1
	}
	return 0
}

func TestCxOrderIsTheOrder(t *testing.T) {
	type ranked struct {
		a    impl.Cx
		rank int
	}
	var all []ranked
	row := floatsInOrder()
	for i, res := range row {
		for k, ims := range row {
			for _, re := range res {
				for _, im := range ims {
					all = append(all, ranked{impl.Cx{Re: re, Im: im}, i*len(row) + k})
				}
			}
		}
	}
	for _, x := range all {
		for _, y := range all {
			if got, want := impl.CxOrder(x.a, y.a), sign(x.rank-y.rank); got != want {
				t.Fatal(x.a, "to", y.a, "stands", got, "not", want)
			}
		}
	}
}

func TestCxOrderTellsNoughtForTheSameAlone(t *testing.T) {
	for _, p := range pairs() {
		there, back := impl.CxOrder(p[0], p[1]), impl.CxOrder(p[1], p[0])
		if there != -back || (there == 0) != sameCx(p[0], p[1]) {
			t.Fatal(p, there, back)
		}
		if impl.CxOrder(p[0], p[0]) != 0 {
			t.Fatal(p[0])
		}
	}
}

func TestCxOrderOfThree(t *testing.T) {
	d := dice(4)
	edges := edgeNumbers()
	pick := func() impl.Cx { return edges[d.bits()%uint64(len(edges))] }
	for range 20000 {
		a, b, c := pick(), pick(), pick()
		if impl.CxOrder(a, b) <= 0 && impl.CxOrder(b, c) <= 0 && impl.CxOrder(a, c) > 0 {
			t.Fatal(a, b, c)
		}
	}
}

// lanesByRule adds each lane by itself, one part after the other.
func lanesByRule(list []impl.Cx) impl.Cx {
	part := func(of func(impl.Cx) float64) float64 {
		var lane [4]float64
		for k := range lane {
			for i := k; i < len(list); i += 4 {
				lane[k] += of(list[i])
			}
		}
		first, second := lane[0]+lane[1], lane[2]+lane[3]
		return first + second
	}
	return impl.Cx{
		Re: part(func(a impl.Cx) float64 { return a.Re }),
		Im: part(func(a impl.Cx) float64 { return a.Im }),
	}
}

func TestCxLanesByHand(t *testing.T) {
	inf, nan, none := math.Inf(1), math.NaN(), minusNought()
	re := func(xs ...float64) []impl.Cx {
		var list []impl.Cx
		for _, x := range xs {
			list = append(list, impl.Cx{Re: x, Im: -x})
		}
		return list
	}
	for _, c := range []struct {
		list []impl.Cx
		want impl.Cx
	}{
		{nil, impl.Cx{}},
		{[]impl.Cx{}, impl.Cx{}},
		{re(7), impl.Cx{Re: 7, Im: -7}},
		{[]impl.Cx{{Re: none, Im: none}}, impl.Cx{}},
		{re(none, none, none, none, none), impl.Cx{}},
		{re(1e16, 1, 1, 1, -1e16), impl.Cx{Re: 3, Im: -3}},
		{re(1e16, 1, 1, 1), impl.Cx{Re: 1e16 + 2, Im: -1e16 - 2}},
		{re(1, 1, 1e16, -1e16), impl.Cx{Re: 2, Im: -2}},
		{re(1, 1e16, -1e16, 1), impl.Cx{}},
		{re(inf, 1, -inf), impl.Cx{Re: nan, Im: nan}},
		{re(inf, 1, inf), impl.Cx{Re: inf, Im: -inf}},
		{[]impl.Cx{{Re: nan, Im: 1}, {Re: 1, Im: 1}}, impl.Cx{Re: nan, Im: 2}},
	} {
		if got := impl.CxLanes(c.list); !sameCx(got, c.want) {
			t.Error(c.list, got, c.want)
		}
	}
}

func TestCxLanesOfEachLength(t *testing.T) {
	d := dice(5)
	list := make([]impl.Cx, impl.MaxList)
	for i := range list {
		list[i] = d.nearCx()
	}
	lengths := []int{63, 64, 65, 1000, impl.MaxList - 1, impl.MaxList}
	for n := range 40 {
		lengths = append(lengths, n)
	}
	for _, n := range lengths {
		if got, want := impl.CxLanes(list[:n]), lanesByRule(list[:n]); !sameCx(got, want) {
			t.Error(n, got, want)
		}
	}
}

func TestCxLanesLimit(t *testing.T) {
	list := make([]impl.Cx, impl.MaxList+1)
	for i := range list {
		list[i] = impl.Cx{Re: 1, Im: 2}
	}
	if impl.MaxList != 4096 {
		t.Error(impl.MaxList)
	}
	if got := impl.CxLanes(list[:impl.MaxList]); got != (impl.Cx{Re: 4096, Im: 8192}) {
		t.Error("as many as there may be", got)
	}
	if got := impl.CxLanes(list); !sameCx(got, impl.Cx{}) {
		t.Error("one too many", got)
	}
}

func TestNarrowByHand(t *testing.T) {
	inf, nan, none := math.Inf(1), math.NaN(), minusNought()
	slimInf, slimNone := float32(inf), float32(none)
	for _, c := range []struct {
		x    float64
		want float32
	}{
		{0, 0},
		{none, slimNone},
		{0.5, 0.5},
		{inf, slimInf},
		{nan, float32(nan)},
		{16777217, 16777216},
		{16777219, 16777220},
		{1 + 0x1p-24, 1},
		{1 + 3*0x1p-24, 1 + 0x1p-22},
		{1 + 0x1p-24 + 0x1p-52, 1 + 0x1p-23},
		{1 + 3*0x1p-24 - 0x1p-52, 1 + 0x1p-23},
		{math.MaxFloat32, math.MaxFloat32},
		{math.Nextafter(0x1.ffffffp127, 0), math.MaxFloat32},
		{0x1.ffffffp127, slimInf},
		{0x1p128, slimInf},
		{1e300, slimInf},
		{math.MaxFloat64, slimInf},
		{0x1p-126, 0x1p-126},
		{0x1p-149, 0x1p-149},
		{3 * 0x1p-150, 0x1p-148},
		{math.Nextafter(0x1p-150, 1), 0x1p-149},
		{0x1p-150, 0},
		{math.SmallestNonzeroFloat64, 0},
	} {
		got := impl.Narrow(impl.Cx{Re: c.x, Im: -c.x})
		if want := (impl.Cs{Re: c.want, Im: -c.want}); !sameCs(got, want) {
			t.Error(c.x, got, want)
		}
		other := impl.Narrow(impl.Cx{Re: 2, Im: c.x})
		if want := (impl.Cs{Re: 2, Im: c.want}); !sameCs(other, want) {
			t.Error("Im", c.x, other, want)
		}
	}
}

// narrowByRule rounds by the exact product with 1.
func narrowByRule(a impl.Cx) impl.Cs {
	return impl.Cs{
		Re: float32(roundedOnce('*', a.Re, 1, 32)),
		Im: float32(roundedOnce('*', a.Im, 1, 32)),
	}
}

func TestNarrowIsTheNearest(t *testing.T) {
	check := func(a impl.Cx) {
		if got, want := impl.Narrow(a), narrowByRule(a); !sameCs(got, want) {
			t.Error(a, got, want)
		}
	}
	for _, a := range edgeNumbers() {
		check(a)
	}
	d := dice(6)
	for range 4000 {
		check(d.nearCx())
		check(d.anyCx())
	}
}

func TestNarrowOfWidenIsTheSame(t *testing.T) {
	for b := uint64(0); b < 1<<32; b += 60013 {
		a := impl.Cs{Re: math.Float32frombits(uint32(b)), Im: math.Float32frombits(^uint32(b))}
		wide := impl.Widen(a)
		if !sameFloat(wide.Re, float64(a.Re)) || !sameFloat(wide.Im, float64(a.Im)) {
			t.Fatal("widened", a, wide)
		}
		if got := impl.Narrow(wide); !sameCs(got, a) {
			t.Fatal(a, got)
		}
	}
	for _, x := range edgeFloats() {
		a := impl.Cs{Re: float32(x), Im: -float32(x)}
		if got := impl.Narrow(impl.Widen(a)); !sameCs(got, a) {
			t.Error(a, got)
		}
	}
}

func TestWidenByHand(t *testing.T) {
	for _, c := range []struct {
		a    impl.Cs
		want impl.Cx
	}{
		{impl.Cs{}, impl.Cx{}},
		{impl.Cs{Re: 0.5, Im: -3}, impl.Cx{Re: 0.5, Im: -3}},
		{impl.Cs{Re: 0.1}, impl.Cx{Re: 0x1.99999ap-4}},
		{impl.Cs{Re: float32(minusNought())}, impl.Cx{Re: minusNought()}},
		{impl.Cs{Im: 0x1p-149}, impl.Cx{Im: 0x1p-149}},
		{impl.Cs{Re: math.MaxFloat32, Im: float32(math.Inf(-1))}, impl.Cx{Re: math.MaxFloat32, Im: math.Inf(-1)}},
		{impl.Cs{Im: float32(math.NaN())}, impl.Cx{Im: math.NaN()}},
	} {
		if got := impl.Widen(c.a); !sameCx(got, c.want) {
			t.Error(c.a, got)
		}
	}
}

func narrowRowByRule(row []impl.Cx, by impl.Cs) []impl.Cs {
	var out []impl.Cs
	wide := impl.Cx{Re: float64(by.Re), Im: float64(by.Im)}
	for _, a := range row {
		slim := narrowByRule(a)
		p := mulByRule(impl.Cx{Re: float64(slim.Re), Im: float64(slim.Im)}, wide, 32)
		out = append(out, impl.Cs{Re: float32(p.Re), Im: float32(p.Im)})
	}
	return out
}

func checkNarrowRow(t *testing.T, row []impl.Cx, by impl.Cs) {
	t.Helper()
	got, want := impl.NarrowRow(row, by), narrowRowByRule(row, by)
	if len(got) != len(want) {
		t.Fatal(len(got), len(want))
	}
	for i := range got {
		if !sameCs(got[i], want[i]) {
			t.Fatal(row[i], "by", by, "is", got[i], "not", want[i])
		}
	}
}

func TestNarrowRowByHand(t *testing.T) {
	slimInf, slimNaN := float32(math.Inf(1)), float32(math.NaN())
	for _, c := range []struct {
		a    impl.Cx
		by   impl.Cs
		want impl.Cs
	}{
		{impl.Cx{Re: 2, Im: 1}, impl.Cs{Im: 3}, impl.Cs{Re: -3, Im: 6}},
		// narrowed first: what is above 16777216 by 1 is gone ahead of the product
		{impl.Cx{Re: 16777217}, impl.Cs{Re: 3}, impl.Cs{Re: 50331648}},
		// each product rounded by itself: 2^-24 of the square is gone ahead of the sum
		{impl.Cx{Re: 1 + 0x1p-12, Im: 1}, impl.Cs{Re: 1 + 0x1p-12, Im: 1 + 0x1p-11}, impl.Cs{Re: 0, Im: 2 + 0x1p-10}},
		{impl.Cx{Re: 0x1p100}, impl.Cs{Re: 0x1p100}, impl.Cs{Re: slimInf}},
		{impl.Cx{Re: 0x1p100, Im: 0x1p100}, impl.Cs{Re: 0x1p100, Im: 0x1p100}, impl.Cs{Re: slimNaN, Im: slimInf}},
		{impl.Cx{Re: 1e300}, impl.Cs{Re: 1}, impl.Cs{Re: slimInf, Im: slimNaN}},
		{impl.Cx{Re: 0x1p-150}, impl.Cs{Re: 0x1p100}, impl.Cs{}},
		{impl.Cx{Re: minusNought()}, impl.Cs{Re: 1}, impl.Cs{Re: float32(minusNought())}},
	} {
		got := impl.NarrowRow([]impl.Cx{{Re: 9, Im: 9}, c.a}, c.by)
		if len(got) != 2 || !sameCs(got[1], c.want) {
			t.Error(c.a, "by", c.by, "is", got, "not", c.want)
		}
	}
}

func TestNarrowRowRoundsEachOperation(t *testing.T) {
	d := dice(7)
	edges := edgeNumbers()
	for i, a := range edges {
		row := []impl.Cx{d.nearCx(), a, d.anyCx(), edges[len(edges)-1-i]}
		checkNarrowRow(t, row, narrowByRule(edges[d.bits()%uint64(len(edges))]))
		checkNarrowRow(t, row, narrowByRule(d.nearCx()))
	}
	for range 3000 {
		checkNarrowRow(t, []impl.Cx{d.nearCx(), d.nearCx()}, narrowByRule(d.nearCx()))
	}
}

func TestNarrowRowLimit(t *testing.T) {
	row := make([]impl.Cx, impl.MaxList+1)
	for i := range row {
		row[i] = impl.Cx{Re: float64(i), Im: 1}
	}
	checkNarrowRow(t, row[:impl.MaxList], impl.Cs{Re: 2, Im: 0.1})
	if got := impl.NarrowRow(row, impl.Cs{Re: 1}); len(got) != 0 {
		t.Error("one too many", len(got))
	}
	if got := impl.NarrowRow(nil, impl.Cs{Re: 1}); len(got) != 0 {
		t.Error("no row", got)
	}
	if got := impl.NarrowRow([]impl.Cx{}, impl.Cs{Re: 1}); len(got) != 0 {
		t.Error("an empty row", got)
	}
}

// roomBehind: three numbers, with room behind them that holds others.
func roomBehind() ([]impl.Cx, []impl.Cx) {
	whole := []impl.Cx{{Re: 1, Im: -1}, {Re: 2, Im: minusNought()}, {Re: math.NaN(), Im: 4}, {Re: 100, Im: 100}, {Re: math.NaN(), Im: math.Inf(1)}}
	return whole, whole[:3]
}

func TestCplxArgumentsStay(t *testing.T) {
	whole, list := roomBehind()
	want, _ := roomBehind()
	impl.CxLanes(list)
	got := impl.NarrowRow(list, impl.Cs{Re: 2})
	if len(got) != 3 {
		t.Error(got)
	}
	_ = append(got, impl.Cs{Re: 5})
	for i := range got {
		got[i] = impl.Cs{Re: -9, Im: -9}
	}
	for i := range want {
		if !sameCx(whole[i], want[i]) {
			t.Error(i, whole[i], want[i])
		}
	}
}

func TestCxLanesLeavesOutWhatLiesBehind(t *testing.T) {
	_, list := roomBehind()
	if got := impl.CxLanes(list[:2]); !sameCx(got, impl.Cx{Re: 3, Im: -1}) {
		t.Error(got)
	}
}

func TestNarrowRowAnswersAreNewMemory(t *testing.T) {
	row := []impl.Cx{{Re: 1}, {Re: 2}}
	first := impl.NarrowRow(row, impl.Cs{Re: 1})
	second := impl.NarrowRow(row, impl.Cs{Re: 1})
	first[0], first[1] = impl.Cs{Re: -9}, impl.Cs{Re: -9}
	for _, spare := range first[:cap(first)] {
		if !sameCs(spare, impl.Cs{}) && spare.Re != -9 {
			t.Error("something lies behind the answer", spare)
		}
	}
	third := impl.NarrowRow(row, impl.Cs{Re: 1})
	for i := range row {
		want := impl.Cs{Re: float32(row[i].Re)}
		if second[i] != want || third[i] != want {
			t.Error(i, second, third)
		}
	}
}
