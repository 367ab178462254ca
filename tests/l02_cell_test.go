package tests

import (
	"math"
	"slices"
	"testing"

	"loop.example/g00055/impl"
)

func unit() []int64 { return []int64{1, 0, 0, 0, 1, 0, 0, 0, 1} }

// noLattices: lists that are no matrix, and matrices of the determinant 0.
func noLattices() [][]int64 {
	list := [][]int64{
		nil, {}, {1}, {1, 2}, unit()[:8], append(unit(), 0), make([]int64, 12),
		make([]int64, 9), {1, 2, 3, 2, 4, 6, 0, 0, 1}, {1, 1, 2, 0, 1, 1, 1, 0, 1},
		{1000, 1000, 1000, 1000, 1000, 1000, -1000, 1000, 1000},
	}
	for i := range 9 {
		for _, n := range []int64{impl.MaxEntry + 1, -impl.MaxEntry - 1, 1 << 40, math.MaxInt64, math.MinInt64} {
			m := unit()
			m[i] = n
			list = append(list, m)
		}
	}
	return list
}

// lattices: ordinary ones and those at the edges.
func lattices() [][]int64 {
	const e = impl.MaxEntry
	list := [][]int64{
		unit(), {0, 2, 0, 3, 1, 0, 0, 0, -4}, {2, 4, 4, -6, 6, 12, 10, -4, -16},
		{1, 1, 0, 1, -1, 0, 0, 0, 1}, {0, 0, 1, 0, 1, 0, 1, 0, 0}, {-1, 0, 0, 0, -1, 0, 0, 0, -1},
		{e, 0, 0, 0, e, 0, 0, 0, e}, {-e, 0, 0, 0, e, 0, 0, 0, e},
		{e, e, e, e, -e, e, e, e, -e}, {-e, e, e, e, -e, e, e, e, -e},
		{e, e, e - 1, e, -e, e, e, e - 1, -e}, {e, -e, 1 - e, 1 - e, -e, e, e, e - 1, e},
		{e, 0, 0, -1, e, 0, 0, -1, e}, {e, 0, 1, -1, e, 0, 0, -1, e},
		{1, 0, 0, e, 1, 0, -e, e, 1}, {e, e - 1, 0, e - 1, e - 2, 0, 0, 0, 1},
	}
	var d dice
	for _, most := range []int64{1, 2, 5, 12, 100, e} {
		for range 150 {
			list = append(list, d.lattice(most))
		}
	}
	return list
}

func TestDetByHand(t *testing.T) {
	const e = impl.MaxEntry
	for _, c := range []struct {
		m    []int64
		want int64
	}{
		{unit(), 1},
		{[]int64{0, 1, 0, 1, 0, 0, 0, 0, 1}, -1},
		{[]int64{1, 2, 3, 4, 5, 6, 7, 8, 10}, -3},
		{[]int64{2, 4, 4, -6, 6, 12, 10, -4, -16}, -144},
		{[]int64{e, 0, 0, 0, e, 0, 0, 0, e}, 1000000000},
		{[]int64{e, e, e, e, -e, e, e, e, -e}, 4000000000},
		{[]int64{-e, -e, -e, e, -e, e, e, e, -e}, -4000000000},
	} {
		if got := impl.Det(c.m); got != c.want {
			t.Error(c.m, got, c.want)
		}
	}
}

func TestDetByRule(t *testing.T) {
	for _, m := range lattices() {
		if got := impl.Det(m); got != detByRule(m).Int64() {
			t.Error(m, got)
		}
	}
}

func TestNoLattice(t *testing.T) {
	for _, m := range noLattices() {
		if got := impl.Det(m); got != 0 {
			t.Error("Det", m, got)
		}
		if got := impl.Hermite(m); len(got) != 0 {
			t.Error("Hermite", m, got)
		}
		if got := impl.Smith(m); len(got) != 0 {
			t.Error("Smith", m, got)
		}
		if impl.SameLattice(m, m) || impl.SameLattice(m, unit()) || impl.SameLattice(unit(), m) {
			t.Error("SameLattice", m)
		}
		if impl.Contains(m, 0, 0, 0) || impl.Contains(m, 1, 0, 0) {
			t.Error("Contains", m)
		}
		if p, q, r := impl.Sublattice(m, m), impl.Sublattice(m, unit()), impl.Sublattice(unit(), m); p != 0 || q != 0 || r != 0 {
			t.Error("Sublattice", m, p, q, r)
		}
	}
}

func TestEntriesAtTheLimit(t *testing.T) {
	for i := range 9 {
		for _, n := range []int64{impl.MaxEntry, -impl.MaxEntry} {
			m := []int64{1, 2, 3, 4, 5, 6, 7, 8, 10}
			m[i] = n
			if impl.Det(m) == 0 || !isHermiteOf(impl.Hermite(m), m) || len(impl.Smith(m)) != 3 ||
				!impl.SameLattice(m, m) || !impl.Contains(m, m[0], m[1], m[2]) || impl.Sublattice(m, m) != 1 {
				t.Error(m)
			}
		}
	}
}

func TestHermiteByHand(t *testing.T) {
	for _, c := range []struct{ m, want []int64 }{
		{unit(), unit()},
		{[]int64{0, 0, -1, 0, 1, 0, 1, 0, 0}, unit()},
		{[]int64{0, 2, 0, 3, 1, 0, 0, 0, -4}, []int64{3, 1, 0, 0, 2, 0, 0, 0, 4}},
		{[]int64{1, 1, 0, 1, -1, 0, 0, 0, 1}, []int64{1, 1, 0, 0, 2, 0, 0, 0, 1}},
		{[]int64{2, -1, 0, 0, 3, -1, 0, 0, 5}, []int64{2, 2, 4, 0, 3, 4, 0, 0, 5}},
		{[]int64{2, 7, 9, 0, 3, 8, 0, 0, 5}, []int64{2, 1, 3, 0, 3, 3, 0, 0, 5}},
	} {
		if got := impl.Hermite(c.m); !slices.Equal(got, c.want) {
			t.Error(c.m, got, c.want)
		}
	}
}

func TestHermiteByRule(t *testing.T) {
	refused := 0
	for _, m := range lattices() {
		got := impl.Hermite(m)
		if d := diagonalByRule(m); max(d[0], d[1], d[2]) > impl.MaxIndex {
			refused++
			if len(got) != 0 {
				t.Error("a number is too great", m, got)
			}
		} else if !isHermiteOf(got, m) {
			t.Error(m, got)
		}
	}
	if refused == 0 {
		t.Error("no lattice was past the limit")
	}
}

func TestHermiteLimit(t *testing.T) {
	const e = impl.MaxEntry
	if got := impl.Hermite([]int64{e, 0, 0, -1, e, 0, 0, -1, e}); !slices.Equal(got, []int64{1, 0, 999000000, 0, 1, 999999000, 0, 0, impl.MaxIndex}) {
		t.Error("met exactly", got)
	}
	past := []int64{e, 0, 1, -1, e, 0, 0, -1, e}
	if got := impl.Hermite(past); len(got) != 0 || impl.Det(past) != impl.MaxIndex+1 {
		t.Error("passed by one", got, impl.Det(past))
	}
	// The limit is Hermite's alone.
	if !impl.SameLattice(past, []int64{0, -1, e, e, 0, 1, -1, e, 0}) || impl.SameLattice(past, []int64{e, 0, 0, -1, e, 0, 0, -1, e}) {
		t.Error("SameLattice past Hermite's limit")
	}
	if impl.Sublattice(past, past) != 1 || impl.Sublattice(unit(), past) != impl.MaxIndex+1 {
		t.Error("Sublattice past Hermite's limit")
	}
	if !impl.Contains(past, e-1, e, 1) || impl.Contains(past, 1, 0, 0) {
		t.Error("Contains past Hermite's limit")
	}
	if got := impl.Smith(past); !slices.Equal(got, []int64{1, 1, impl.MaxIndex + 1}) {
		t.Error("Smith past Hermite's limit", got)
	}
}

func TestHermiteIsItsOwn(t *testing.T) {
	for _, m := range lattices() {
		h := impl.Hermite(m)
		if len(h) == 9 && slices.Max(h) <= impl.MaxEntry {
			if again := impl.Hermite(h); !slices.Equal(again, h) || !impl.SameLattice(h, m) {
				t.Error(m, h, again)
			}
		}
	}
}

func TestHermiteTellsTheLattice(t *testing.T) {
	var d dice
	for _, m := range lattices() {
		other := d.otherBasis(m, impl.MaxEntry)
		if !slices.Equal(impl.Hermite(m), impl.Hermite(other)) || !impl.SameLattice(m, other) || !impl.SameLattice(other, m) {
			t.Error(m, other)
		}
		if !slices.Equal(impl.Smith(m), impl.Smith(other)) || impl.Sublattice(m, other) != 1 {
			t.Error(m, other)
		}
	}
}

// greatLattices: determinants so great that numbers below them, multiplied, no
// longer fit.
func greatLattices() [][]int64 {
	list := [][]int64{
		{-982, 985, 984, 988, -922, 938, 987, 917, -928}, {-979, 981, 944, 954, -955, 979, 983, 949, -952},
		{-902, 957, 978, 957, -901, 944, 964, 939, -936}, {-922, 991, 945, 990, -992, 937, 930, 932, -924},
	}
	var d dice
	for range 2000 {
		m := make([]int64, 9)
		for i := range m {
			m[i] = d.between(900, impl.MaxEntry)
			if i%4 == 0 {
				m[i] = -m[i]
			}
		}
		list = append(list, m)
	}
	return list
}

func TestSameLatticeOfGreatOnes(t *testing.T) {
	for _, m := range greatLattices() {
		a, b, c := m[:3], m[3:6], m[6:]
		for _, other := range [][]int64{
			slices.Concat(a, c, b), slices.Concat(b, a, c), slices.Concat(b, c, a), slices.Concat(c, a, b), slices.Concat(c, b, a),
		} {
			if !impl.SameLattice(m, other) {
				t.Error(m, other)
			}
		}
		mirror := []int64{m[1], m[0], m[2], m[4], m[3], m[5], m[7], m[6], m[8]}
		if got := impl.SameLattice(m, mirror); got != withinByRule(m, mirror) {
			t.Error("mirrored", m, got)
		}
	}
}

// withinByRule: is each row of b in a's lattice?
func withinByRule(a, b []int64) bool {
	return holdsByRule(a, b[:3]...) && holdsByRule(a, b[3:6]...) && holdsByRule(a, b[6:9]...)
}

func TestPairsOfLattices(t *testing.T) {
	var d dice
	same, coarser := 0, 0
	for range 6000 {
		a, b := d.lattice(1), d.lattice(2)
		up, down := withinByRule(a, b), withinByRule(b, a)
		if got := impl.SameLattice(a, b); got != (up && down) || got != slices.Equal(impl.Hermite(a), impl.Hermite(b)) {
			t.Error("same", a, b, got)
		}
		want := int64(0)
		if up {
			q := detByRule(b)
			want = q.Abs(q.Quo(q, detByRule(a))).Int64()
			coarser++
		}
		if got := impl.Sublattice(a, b); got != want {
			t.Error("sublattice", a, b, got, want)
		}
		if up && down {
			same++
		}
	}
	if same < 20 || coarser < 200 {
		t.Error("too few that are alike", same, coarser)
	}
}

func TestSublatticeOfMultiples(t *testing.T) {
	var d dice
	for range 300 {
		a, by := d.lattice(20), d.lattice(8)
		b := make([]int64, 9)
		for i := range 9 {
			for k := range 3 {
				b[i] += by[i/3*3+k] * a[3*k+i%3]
			}
		}
		size := detByRule(by)
		if got := impl.Sublattice(a, b); got != size.Abs(size).Int64() {
			t.Error(a, b, got, size)
		}
		if size.Int64() > 1 && (impl.Sublattice(b, a) != 0 || impl.SameLattice(a, b)) {
			t.Error("the finer one is within the coarser", a, b)
		}
	}
	if got := impl.Sublattice([]int64{2, 0, 0, 0, 1, 0, 0, 0, 1}, []int64{1, 0, 0, 0, 2, 0, 0, 0, 1}); got != 0 {
		t.Error("alike in size, and neither within the other", got)
	}
}

func TestContainsByHand(t *testing.T) {
	const e, x = impl.MaxEntry, impl.MaxIndex
	even := []int64{1, 1, 0, 1, -1, 0, 0, 0, 1}
	big := []int64{e, 0, 0, 0, e, 0, 0, 0, e}
	for _, c := range []struct {
		m       []int64
		x, y, z int64
		want    bool
	}{
		{even, 0, 0, 0, true}, {even, 3, 1, 7, true}, {even, 1, 0, 0, false}, {even, 0, 1, 1, false},
		{even, x, -x, x, true}, {even, x, x - 1, 0, false}, {even, -x, -x, -x, true},
		{unit(), x, 0, 0, true}, {unit(), x + 1, 0, 0, false}, {unit(), -x, 0, 0, true}, {unit(), -x - 1, 0, 0, false},
		{unit(), 0, x, 0, true}, {unit(), 0, x + 1, 0, false}, {unit(), 0, -x, 0, true}, {unit(), 0, -x - 1, 0, false},
		{unit(), 0, 0, x, true}, {unit(), 0, 0, x + 1, false}, {unit(), 0, 0, -x, true}, {unit(), 0, 0, -x - 1, false},
		{unit(), math.MinInt64, 0, 0, false}, {unit(), 0, math.MaxInt64, 0, false}, {unit(), 0, 0, math.MinInt64, false},
		{big, x, x, -x, true}, {big, x, x - 1, x, false}, {big, e - 1, 0, 0, false},
	} {
		if got := impl.Contains(c.m, c.x, c.y, c.z); got != c.want {
			t.Error(c.m, c.x, c.y, c.z, got)
		}
	}
}

func TestContainsByRule(t *testing.T) {
	var d dice
	for _, m := range lattices() {
		for range 8 {
			v := d.numbers(3, []int64{3, 1000, impl.MaxIndex}[d.between(0, 2)])
			if got := impl.Contains(m, v[0], v[1], v[2]); got != holdsByRule(m, v...) {
				t.Error(m, v, got)
			}
		}
	}
}

func TestContainsRowsAndTheirSums(t *testing.T) {
	var d dice
	for _, m := range lattices() {
		for i := range 3 {
			if !impl.Contains(m, m[3*i], m[3*i+1], m[3*i+2]) {
				t.Error("a row", m, i)
			}
		}
		by := d.numbers(3, impl.MaxIndex/(3*impl.MaxEntry))
		v := make([]int64, 3)
		for k := range 9 {
			v[k%3] += by[k/3] * m[k]
		}
		if !impl.Contains(m, v[0], v[1], v[2]) {
			t.Error("a sum", m, v)
		}
		v[0]++
		if got := impl.Contains(m, v[0], v[1], v[2]); got != impl.Contains(m, 1, 0, 0) {
			t.Error("beside a sum", m, v, got)
		}
	}
}

func TestSmithByHand(t *testing.T) {
	const e = impl.MaxEntry
	for _, c := range []struct{ m, want []int64 }{
		{unit(), []int64{1, 1, 1}},
		{[]int64{2, 4, 4, -6, 6, 12, 10, -4, -16}, []int64{2, 6, 12}},
		{[]int64{2, 0, 0, 0, 3, 0, 0, 0, 5}, []int64{1, 1, 30}},
		{[]int64{4, 0, 0, 0, 6, 0, 0, 0, -10}, []int64{2, 2, 60}},
		{[]int64{0, 0, 6, 0, 2, 0, 12, 0, 0}, []int64{2, 6, 12}},
		{[]int64{e, 0, 0, 0, e, 0, 0, 0, e}, []int64{e, e, e}},
		{[]int64{e, e, e, e, -e, e, e, e, -e}, []int64{e, 2 * e, 2 * e}},
	} {
		if got := impl.Smith(c.m); !slices.Equal(got, c.want) {
			t.Error(c.m, got, c.want)
		}
	}
}

func TestSmithByRule(t *testing.T) {
	for _, m := range lattices() {
		got := impl.Smith(m)
		if !slices.Equal(got, smithByRule(m)) {
			t.Error(m, got, smithByRule(m))
			continue
		}
		det := impl.Det(m)
		if got[0] < 1 || got[1]%got[0] != 0 || got[2]%got[1] != 0 || got[0]*got[1]*got[2] != max(det, -det) {
			t.Error(m, got)
		}
	}
}

func TestCellArgumentsStay(t *testing.T) {
	fresh := func() []int64 { return []int64{0, 2, 0, 3, 1, 0, 0, 0, -4, 77, 88, 99} }
	whole := fresh()
	m := whole[:9]
	impl.Det(m)
	impl.SameLattice(m, m)
	impl.Contains(m, 1, 2, 3)
	impl.Sublattice(m, m)
	for _, got := range [][]int64{impl.Hermite(m), impl.Smith(m)} {
		_ = append(got, -9)
		for i := range got {
			got[i] = -9
		}
	}
	if !slices.Equal(whole, fresh()) {
		t.Error(whole)
	}
	if !slices.Equal(impl.Hermite(m), []int64{3, 1, 0, 0, 2, 0, 0, 0, 4}) || !slices.Equal(impl.Smith(m), []int64{1, 2, 12}) {
		t.Error("an answer was not new memory")
	}
	own := unit()
	impl.Hermite(own)[0] = 9
	if !slices.Equal(own, unit()) {
		t.Error("what is its own Hermite was handed out", own)
	}
}

// wrongForms: each is out of one bound alone.
func wrongForms() []impl.Form {
	const m = impl.MaxForm
	return []impl.Form{
		{}, {A: 1}, {C: 1}, {A: 0, B: 0, C: 1}, {A: 1, B: 0, C: 0}, {A: -1, B: 0, C: -1}, {A: -1, B: 0, C: 1}, {A: 1, B: 0, C: -1},
		{A: 1, B: 1, C: 1}, {A: 1, B: -1, C: 1}, {A: 1, B: 2, C: 3}, {A: 4, B: 6, C: 9}, {A: 4, B: -6, C: 9},
		{A: m + 1, B: 0, C: 1}, {A: 1, B: 0, C: m + 1}, {A: m, B: m, C: m}, {A: m, B: -m, C: m},
		{A: m, B: m + 1, C: m}, {A: m, B: -m - 1, C: m}, {A: m + 1, B: m, C: m + 1}, {A: m + 1, B: m + 1, C: m + 2},
		{A: -m, B: 0, C: -m}, {A: 3037000500, B: 0, C: 3037000500}, {A: math.MaxInt64, B: 0, C: math.MaxInt64},
		{A: 1, B: math.MinInt64, C: 1}, {A: m, B: 1 << 32, C: m}, {A: math.MinInt64, B: math.MinInt64, C: math.MinInt64},
	}
}

func TestWrongForms(t *testing.T) {
	for _, f := range wrongForms() {
		if impl.FormOk(f) {
			t.Error("FormOk", f)
		}
		if got := impl.Reduce(f); got != (impl.Form{}) {
			t.Error("Reduce", f, got)
		}
		for _, most := range []int64{0, 1, impl.MaxForm} {
			if got := impl.Shorts(f, most); len(got) != 0 {
				t.Error("Shorts", f, most, got)
			}
		}
	}
}

// forms: right ones, at the edges and within.
func forms() []impl.Form {
	const m = impl.MaxForm
	list := []impl.Form{
		{A: 1, B: 0, C: 1}, {A: 1, B: 1, C: 2}, {A: 2, B: -1, C: 2}, {A: 5, B: 7, C: 10}, {A: 10, B: -7, C: 5},
		{A: 2, B: 1, C: 2}, {A: 4, B: 2, C: 4}, {A: 4, B: -2, C: 4}, {A: 4, B: -2, C: 5}, {A: 5, B: 2, C: 4}, {A: 7, B: 0, C: 3},
		{A: m, B: 0, C: m}, {A: m, B: m - 1, C: m}, {A: m, B: 1 - m, C: m}, {A: m, B: m / 2, C: m}, {A: m, B: -m / 2, C: m},
		{A: 1, B: 0, C: m}, {A: m, B: 0, C: 1}, {A: 1, B: 999, C: m}, {A: m, B: -999, C: 1}, {A: m, B: 999999, C: 999999},
	}
	var d dice
	for _, most := range []int64{3, 6, 12, 40, 1000, m} {
		for range 60 {
			list = append(list, d.form(most))
		}
	}
	return list
}

func TestFormOk(t *testing.T) {
	for _, f := range forms() {
		if !impl.FormOk(f) {
			t.Error(f)
		}
	}
}

func TestReduceByHand(t *testing.T) {
	const m = impl.MaxForm
	for _, c := range []struct{ f, want impl.Form }{
		{impl.Form{A: 5, B: 7, C: 10}, impl.Form{A: 1, B: 0, C: 1}},
		{impl.Form{A: 2, B: -1, C: 2}, impl.Form{A: 2, B: 1, C: 2}},
		{impl.Form{A: 4, B: -2, C: 5}, impl.Form{A: 4, B: 2, C: 5}},
		{impl.Form{A: 7, B: 0, C: 3}, impl.Form{A: 3, B: 0, C: 7}},
		{impl.Form{A: 4, B: 3, C: 4}, impl.Form{A: 2, B: 1, C: 4}},
		{impl.Form{A: 1, B: 999, C: m}, impl.Form{A: 1, B: 0, C: 1999}},
		{impl.Form{A: m, B: m - 1, C: m}, impl.Form{A: 2, B: 1, C: m}},
		{impl.Form{A: m, B: 0, C: m}, impl.Form{A: m, B: 0, C: m}},
		{impl.Form{A: m, B: -m / 2, C: m}, impl.Form{A: m, B: m / 2, C: m}},
	} {
		if got := impl.Reduce(c.f); got != c.want {
			t.Error(c.f, got, c.want)
		}
	}
}

func TestReduceIsReduced(t *testing.T) {
	var d dice
	for _, f := range forms() {
		r := impl.Reduce(f)
		if r.B < 0 || 2*r.B > r.A || r.A > r.C || formDet(r) != formDet(f) || r.A < 1 {
			t.Error(f, r)
		}
		if again := impl.Reduce(r); again != r {
			t.Error("again", f, r, again)
		}
		other := d.otherForm(f)
		if got := impl.Reduce(other); got != r {
			t.Error("of another pair of vectors", f, other, r, got)
		}
	}
}

func TestReduceByRule(t *testing.T) {
	for a := int64(1); a <= 14; a++ {
		for c := int64(1); c <= 14; c++ {
			for b := int64(-14); b <= 14; b++ {
				f := impl.Form{A: a, B: b, C: c}
				if !impl.FormOk(f) {
					if a*c > b*b {
						t.Error("right", f)
					}
					continue
				}
				if got := impl.Reduce(f); got != reducedByRule(f) {
					t.Error(f, got, reducedByRule(f))
				}
			}
		}
	}
}

func TestReducedIsTheLeastOfShorts(t *testing.T) {
	for _, f := range forms() {
		r := impl.Reduce(f)
		list := impl.Shorts(f, r.A)
		if len(list) == 0 || list[0].C != r.A {
			t.Error(f, r, list)
		}
		if below := impl.Shorts(f, r.A-1); len(below) != 0 {
			t.Error("below the least", f, r, below)
		}
	}
}

func TestShortsByHand(t *testing.T) {
	for _, c := range []struct {
		f    impl.Form
		most int64
		want []impl.Form
	}{
		{impl.Form{A: 1, B: 0, C: 1}, 0, nil},
		{impl.Form{A: 1, B: 0, C: 1}, 1, []impl.Form{{A: 0, B: 1, C: 1}, {A: 1, B: 0, C: 1}}},
		{impl.Form{A: 2, B: 1, C: 2}, 2, []impl.Form{{A: 0, B: 1, C: 2}, {A: 1, B: -1, C: 2}, {A: 1, B: 0, C: 2}}},
		{impl.Form{A: 1, B: 0, C: 3}, 4, []impl.Form{{A: 1, B: 0, C: 1}, {A: 0, B: 1, C: 3}, {A: 1, B: -1, C: 4}, {A: 1, B: 1, C: 4}, {A: 2, B: 0, C: 4}}},
		{impl.Form{A: impl.MaxForm, B: 0, C: impl.MaxForm}, impl.MaxForm, []impl.Form{{A: 0, B: 1, C: impl.MaxForm}, {A: 1, B: 0, C: impl.MaxForm}}},
		{impl.Form{A: impl.MaxForm, B: 0, C: impl.MaxForm}, impl.MaxForm - 1, nil},
		{impl.Form{A: impl.MaxForm, B: 0, C: impl.MaxForm}, impl.MaxForm + 1, nil},
		{impl.Form{A: 1, B: 0, C: 1}, -1, nil},
		{impl.Form{A: 1, B: 0, C: 1}, math.MinInt64, nil},
		{impl.Form{A: 1, B: 0, C: 1}, math.MaxInt64, nil},
		{impl.Form{A: 1, B: 0, C: 3}, -6148914691236517202, nil}, // three times it is 10 where it wraps round
		{impl.Form{A: 1, B: 0, C: 1}, impl.MaxForm, nil},
	} {
		if got := impl.Shorts(c.f, c.most); !slices.Equal(got, c.want) {
			t.Error(c.f, c.most, got, c.want)
		}
	}
}

func TestShortsByRule(t *testing.T) {
	check := func(f impl.Form, most int64) {
		want := shortsByRule(f, most)
		if len(want) > impl.MaxShorts {
			want = nil
		}
		if got := impl.Shorts(f, most); !slices.Equal(got, want) {
			t.Error(f, most, len(got), len(want))
		}
	}
	var d dice
	for range 400 {
		f := d.form(12)
		check(f, d.between(0, 60))
		check(f, d.between(0, 800))
	}
	for range 20 {
		f := d.form(impl.MaxForm)
		check(f, max(f.A, f.C))
	}
}

func TestShortsLimit(t *testing.T) {
	const n = impl.MaxShorts
	for _, f := range []impl.Form{{A: 1, B: 0, C: impl.MaxForm}, {A: impl.MaxForm, B: 0, C: 1}} {
		for _, most := range []int64{n * n, (n+1)*(n+1) - 1} {
			if got := impl.Shorts(f, most); len(got) != n || got[n-1].C != n*n {
				t.Error("met exactly", f, most, len(got))
			}
		}
		if got := impl.Shorts(f, (n+1)*(n+1)); len(got) != 0 {
			t.Error("passed by one", f, len(got))
		}
	}
}

func TestShortsAnswersAreNewMemory(t *testing.T) {
	f := impl.Form{A: 2, B: 1, C: 2}
	first := impl.Shorts(f, 8)
	for _, spare := range first[len(first):cap(first)] {
		if spare != (impl.Form{}) {
			t.Error("something lies behind the answer", spare)
		}
	}
	want := slices.Clone(first)
	clear(first)
	if got := impl.Shorts(f, 8); !slices.Equal(got, want) || len(got) == 0 {
		t.Error(got, want)
	}
}

func TestCellAnswersAtEveryArgument(t *testing.T) {
	var d dice
	for range 3000 {
		m := make([]int64, d.between(0, 10))
		for i := range m {
			m[i] = int64(d.bits()) >> d.between(0, 63)
		}
		impl.Det(m)
		impl.Hermite(m)
		impl.Smith(m)
		impl.SameLattice(m, unit())
		impl.Sublattice(unit(), m)
		x, y, z := int64(d.bits())>>d.between(0, 63), int64(d.bits())>>d.between(0, 63), int64(d.bits())>>d.between(0, 63)
		impl.Contains(m, x, y, z)
		f := impl.Form{A: x, B: y, C: z}
		if impl.FormOk(f) != (impl.Reduce(f) != impl.Form{}) {
			t.Error(f)
		}
		impl.Shorts(f, int64(d.bits())>>d.between(0, 63))
	}
}
