package tests

import (
	"math"
	"math/cmplx"
	"slices"
	"testing"

	"loop.example/g00055/impl"
)

// units: pairs whose product is 1, however great their numbers are.
func units() [][2]impl.Cyc {
	list := [][2]impl.Cyc{}
	for _, u := range [][2]impl.Cyc{
		{cyc(2, 2, 0, -1), cyc(2, -2, 0, 1)}, // 2 + r and 2 - r
		{cyc(1, -1, 0, 0), cyc(0, 0, 1, 1)},  // 1 - w
	} {
		a, b := cyc(1, 0, 0, 0), cyc(1, 0, 0, 0)
		for {
			list = append(list, [2]impl.Cyc{a, b})
			nextA, okA := cycMulByRule(a, u[0])
			nextB, okB := cycMulByRule(b, u[1])
			if !okA || !okB {
				break
			}
			a, b = nextA, nextB
		}
	}
	return list
}

func mustMul(t *testing.T, a, b impl.Cyc) impl.Cyc {
	t.Helper()
	out, ok := impl.CycMul(a, b)
	if !ok {
		t.Fatal(a, b)
	}
	return out
}

func mustAdd(t *testing.T, a, b impl.Cyc) impl.Cyc {
	t.Helper()
	out, ok := impl.CycAdd(a, b)
	if !ok {
		t.Fatal(a, b)
	}
	return out
}

func TestCycOkAtTheLimit(t *testing.T) {
	if impl.MaxCyc != cycMost {
		t.Error(impl.MaxCyc)
	}
	const m = cycMost
	for _, a := range []impl.Cyc{
		{}, cyc(1, -2, 3, -4), cyc(m, m, m, m), cyc(-m, -m, -m, -m), cyc(m, 0, 0, 0), cyc(0, m, 0, 0), cyc(0, 0, m, 0), cyc(0, 0, 0, m),
		cyc(-m, 0, 0, 0), cyc(0, -m, 0, 0), cyc(0, 0, -m, 0), cyc(0, 0, 0, -m),
	} {
		if !impl.CycOk(a) {
			t.Error(a)
		}
	}
	for _, a := range wrongCycs() {
		if impl.CycOk(a) {
			t.Error(a)
		}
	}
}

func TestWrongCycs(t *testing.T) {
	for _, a := range wrongCycs() {
		for _, b := range []impl.Cyc{{}, cyc(1, 0, 0, 0), cyc(0, 1, 0, -1), cyc(-cycMost, cycMost, 0, 0), a, cyc(-a.A, -a.B, -a.C, -a.D)} {
			for _, pair := range [][2]impl.Cyc{{a, b}, {b, a}} {
				if got, ok := impl.CycAdd(pair[0], pair[1]); ok || got != (impl.Cyc{}) {
					t.Error("CycAdd", pair, got, ok)
				}
				if got, ok := impl.CycMul(pair[0], pair[1]); ok || got != (impl.Cyc{}) {
					t.Error("CycMul", pair, got, ok)
				}
			}
		}
		if got := impl.CycConj(a); got != (impl.Cyc{}) {
			t.Error("CycConj", a, got)
		}
		if p, q, ok := impl.CycReal(a); p != 0 || q != 0 || ok {
			t.Error("CycReal", a, p, q, ok)
		}
		if re, im := impl.CycFloat(a); !sameFloat(re, 0) || !sameFloat(im, 0) {
			t.Error("CycFloat", a, re, im)
		}
	}
}

func TestCycAddByHand(t *testing.T) {
	const m = cycMost
	for _, c := range []struct {
		a, b, want impl.Cyc
		ok         bool
	}{
		{cyc(1, 2, 3, 4), cyc(10, -20, 30, -40), cyc(11, -18, 33, -36), true},
		{impl.Cyc{}, impl.Cyc{}, impl.Cyc{}, true},
		{cyc(m, -m, m, -m), cyc(-m, m, -m, m), impl.Cyc{}, true},
		{cyc(m-1, 0, 0, 1-m), cyc(1, 0, 0, -1), cyc(m, 0, 0, -m), true},
		{cyc(0, m-5, 7-m, 0), cyc(0, 5, -7, 0), cyc(0, m, -m, 0), true},
		{cyc(m, 1, 1, 1), cyc(1, 0, 0, 0), impl.Cyc{}, false},
		{cyc(1, -m, 1, 1), cyc(0, -1, 0, 0), impl.Cyc{}, false},
		{cyc(1, 1, m-5, 1), cyc(0, 0, 6, 0), impl.Cyc{}, false},
		{cyc(1, 1, 1, 6-m), cyc(0, 0, 0, -7), impl.Cyc{}, false},
		{cyc(m, m, m, m), cyc(m, m, m, m), impl.Cyc{}, false},
	} {
		for _, pair := range [][2]impl.Cyc{{c.a, c.b}, {c.b, c.a}} {
			if got, ok := impl.CycAdd(pair[0], pair[1]); got != c.want || ok != c.ok {
				t.Error(pair, got, ok)
			}
		}
	}
}

func TestCycMulByHand(t *testing.T) {
	const m = cycMost
	for _, c := range []struct {
		a, b, want impl.Cyc
		ok         bool
	}{
		{cyc(0, 1, 0, 0), cyc(0, 1, 0, 0), cyc(0, 0, 1, 0), true},
		{cyc(0, 0, 1, 0), cyc(0, 0, 1, 0), cyc(-1, 0, 1, 0), true},
		{cyc(0, 0, 1, 0), cyc(0, 0, 0, 1), cyc(0, -1, 0, 1), true},
		{cyc(0, 0, 0, 1), cyc(0, 0, 0, 1), cyc(-1, 0, 0, 0), true},
		{cyc(0, 1, 0, 0), cyc(0, 1, 0, -1), cyc(1, 0, 0, 0), true},
		{cyc(2, 3, 5, 7), cyc(11, 13, 17, 19), cyc(-344, -155, 361, 445), true},
		{cyc(0, 2, 0, -1), cyc(0, 2, 0, -1), cyc(3, 0, 0, 0), true},
		{cyc(m, -m, m, -m), impl.Cyc{}, impl.Cyc{}, true},
		{cyc(m, -m, m, -m), cyc(1, 0, 0, 0), cyc(m, -m, m, -m), true},
		{cyc(m, m, -m, m), cyc(-1, 0, 0, 0), cyc(-m, -m, m, -m), true},
		{cyc(1000000, 0, 0, 0), cyc(0, 0, 1000000, 0), cyc(0, 0, m, 0), true},
		{cyc(1000001, 0, 0, 0), cyc(0, 0, 1000000, 0), impl.Cyc{}, false},
		{cyc(10001, 0, 0, 0), cyc(0, 0, 0, 99990001), impl.Cyc{}, false},
		{cyc(-10001, 0, 0, 0), cyc(0, 99990001, 0, 0), impl.Cyc{}, false},
		{cyc(10001, 0, 0, 0), cyc(99990000, 0, 0, 0), cyc(m-10000, 0, 0, 0), true},
		// In 64 bits these would be 0, or small.
		{cyc(1<<32, 0, 0, 0), cyc(1<<32, 0, 0, 0), impl.Cyc{}, false},
		{cyc(0, 1<<33, 0, 0), cyc(0, 0, -1<<31, 0), impl.Cyc{}, false},
		{cyc(1<<34, 1, 0, 0), cyc(0, 1, 1<<34, 0), impl.Cyc{}, false},
		{cyc(m, m, m, m), cyc(m, m, m, m), impl.Cyc{}, false},
		{cyc(-m, m, -m, m), cyc(m, m, m, -m), impl.Cyc{}, false},
		{cyc(0, 0, m, 0), cyc(m, 0, m, 0), impl.Cyc{}, false},
	} {
		for _, pair := range [][2]impl.Cyc{{c.a, c.b}, {c.b, c.a}} {
			if got, ok := impl.CycMul(pair[0], pair[1]); got != c.want || ok != c.ok {
				t.Error(pair, got, ok)
			}
		}
	}
}

// What lies in between is far past 64 bits, and what comes is small, or at the
// limit, or one past it, at each of the four numbers.
func TestCycMulOfGreatNumbersWithSmallProducts(t *testing.T) {
	great := 0
	for _, u := range units() {
		if slices.Max(cycNumbers(u[0])) > 1<<36 && slices.Max(cycNumbers(u[1])) > 1<<36 {
			great++
		}
		if got := mustMul(t, u[0], u[1]); got != cyc(1, 0, 0, 0) {
			t.Error(u, got)
		}
		for k := range int64(12) {
			root := cycRootByRule(k)
			turned, _ := cycMulByRule(u[0], root)
			if got, ok := impl.CycMul(turned, u[1]); ok != isCycByRule(turned) || ok && got != root || !ok && got != (impl.Cyc{}) {
				t.Error(turned, u[1], got, ok)
			}
			checkScaled(t, u, root)
		}
	}
	if great < 4 {
		t.Error("too few are great:", great)
	}
}

func checkScaled(t *testing.T, u [2]impl.Cyc, root impl.Cyc) {
	t.Helper()
	for _, by := range [][2]int64{{1000000, 1000000}, {10001, 99990001}, {-10001, 99990001}, {10001, 99990000}, {1, cycMost}} {
		first, ok := cycMulByRule(cyc(by[0], 0, 0, 0), root)
		a, okA := cycMulByRule(u[0], first)
		b, okB := cycMulByRule(u[1], cyc(by[1], 0, 0, 0))
		if !ok || !okA || !okB {
			continue
		}
		want, within := cycMulByRule(first, cyc(by[1], 0, 0, 0))
		if got, ok := impl.CycMul(a, b); got != want || ok != within {
			t.Error(a, b, got, ok, want)
		}
	}
}

// checkPair holds a and b against the rules, and tells whether their product is
// in range.
func checkPair(t *testing.T, a, b impl.Cyc) bool {
	t.Helper()
	sum, sumOk := cycAddByRule(a, b)
	if got, ok := impl.CycAdd(a, b); got != sum || ok != sumOk {
		t.Fatal("CycAdd", a, b, got, ok)
	}
	product, productOk := cycMulByRule(a, b)
	if got, ok := impl.CycMul(a, b); got != product || ok != productOk {
		t.Fatal("CycMul", a, b, got, ok)
	}
	if got := impl.CycConj(a); got != cycConjByRule(a) {
		t.Fatal("CycConj", a, got)
	}
	return productOk
}

func TestCycByRule(t *testing.T) {
	var d dice
	sizes := []int64{1, 5, 1000, 300000, 1000000, 2000000, 500000000, cycMost}
	in, out := 0, 0
	for i := range 20000 {
		if checkPair(t, d.cyc(sizes[i%8]), d.cyc(sizes[i/8%8])) {
			in++
		} else {
			out++
		}
	}
	if in < 5000 || out < 5000 {
		t.Error(in, out)
	}
}

func TestCycAtTheEdges(t *testing.T) {
	var d dice
	const m = cycMost
	edges := []int64{m, -m, m - 1, 1 - m, 1000000, -1000000, 999999, -999999, 1000001, -1000001, 0, 0, 1, -1}
	draw := func() int64 { return edges[d.between(0, int64(len(edges)-1))] }
	for range 20000 {
		checkPair(t, cyc(draw(), draw(), draw(), draw()), cyc(draw(), draw(), draw(), draw()))
	}
}

// P9: sums and products hang on no order, and the conjugate goes through both.
func TestCycLaws(t *testing.T) {
	var d dice
	for i := range 5000 {
		most := []int64{1, 20, 1000}[i%3]
		a, b, c := d.cyc(most), d.cyc(most), d.cyc(most)
		ab := mustMul(t, a, b)
		if ab != mustMul(t, b, a) || mustAdd(t, a, b) != mustAdd(t, b, a) {
			t.Fatal("order", a, b)
		}
		if mustMul(t, ab, c) != mustMul(t, a, mustMul(t, b, c)) || mustAdd(t, mustAdd(t, a, b), c) != mustAdd(t, a, mustAdd(t, b, c)) {
			t.Fatal("brackets", a, b, c)
		}
		if mustMul(t, a, mustAdd(t, b, c)) != mustAdd(t, ab, mustMul(t, a, c)) {
			t.Fatal("a sum's product", a, b, c)
		}
		conjA, conjB := impl.CycConj(a), impl.CycConj(b)
		if impl.CycConj(ab) != mustMul(t, conjA, conjB) || impl.CycConj(mustAdd(t, a, b)) != mustAdd(t, conjA, conjB) || impl.CycConj(conjA) != a {
			t.Fatal("conjugates", a, b)
		}
	}
}

// P9, where the numbers are great: what comes is the same in either order,
// whether it is in range or not.
func TestCycOrderOfGreatNumbers(t *testing.T) {
	var d dice
	for i := range 6000 {
		a, b := d.cyc([]int64{100, 2000000, cycMost}[i%3]), d.cyc([]int64{200000, 30, 100000000}[i/3%3])
		if i%2 == 0 {
			a = d.wildCyc()
		}
		ab, ok := impl.CycMul(a, b)
		if ba, okBack := impl.CycMul(b, a); ab != ba || ok != okBack {
			t.Fatal(a, b, ab, ok, ba, okBack)
		}
		sum, ok := impl.CycAdd(a, b)
		if other, okBack := impl.CycAdd(b, a); sum != other || ok != okBack {
			t.Fatal(a, b, sum, ok, other, okBack)
		}
	}
}

// The rules themselves, held against sines.
func TestCycRulesAreWhatSinesTell(t *testing.T) {
	var d dice
	near := func(a impl.Cyc, want complex128) bool { return cmplx.Abs(sines(a)-want) < 1e-6 }
	for range 500 {
		a, b := d.cyc(100), d.cyc(100)
		product, _ := cycMulByRule(a, b)
		if !near(product, sines(a)*sines(b)) || !near(cycConjByRule(a), cmplx.Conj(sines(a))) {
			t.Fatal(a, b, product)
		}
	}
	for k := int64(-30); k <= 30; k++ {
		if !near(cycRootByRule(k), cmplx.Exp(complex(0, math.Pi*float64(k)/6))) {
			t.Error(k)
		}
	}
}

func TestCycConjByHand(t *testing.T) {
	const m = cycMost
	for _, c := range []struct{ a, want impl.Cyc }{
		{impl.Cyc{}, impl.Cyc{}},
		{cyc(7, 0, 0, 0), cyc(7, 0, 0, 0)},
		{cyc(0, 1, 0, 0), cyc(0, 1, 0, -1)},
		{cyc(0, 0, 1, 0), cyc(1, 0, -1, 0)},
		{cyc(0, 0, 0, 1), cyc(0, 0, 0, -1)},
		{cyc(1, 2, 3, 4), cyc(4, 2, -3, -6)},
		{cyc(0, 2, 0, -1), cyc(0, 2, 0, -1)},
		{cyc(m, 0, -m, 0), cyc(0, 0, m, 0)},
		{cyc(m-1, 0, 1, 0), cyc(m, 0, -1, 0)},
		{cyc(1-m, 0, -1, 0), cyc(-m, 0, 1, 0)},
		{cyc(0, m, 0, 0), cyc(0, m, 0, -m)},
		{cyc(0, -m, 0, 0), cyc(0, -m, 0, m)},
		{cyc(0, m-1, 0, 1), cyc(0, m-1, 0, -m)},
		{cyc(0, m, 0, -m), cyc(0, m, 0, 0)},
		// Each is right, and its conjugate is none.
		{cyc(m, 0, 1, 0), impl.Cyc{}},
		{cyc(-m, 0, -1, 0), impl.Cyc{}},
		{cyc(1, 0, m, 0), impl.Cyc{}},
		{cyc(0, m, 0, 1), impl.Cyc{}},
		{cyc(0, -m, 0, -1), impl.Cyc{}},
		{cyc(0, 1, 0, m), impl.Cyc{}},
		{cyc(5, -1, 0, -m), impl.Cyc{}},
		{cyc(m, m, m, m), impl.Cyc{}},
	} {
		if got := impl.CycConj(c.a); got != c.want {
			t.Error(c.a, got, c.want)
		}
	}
}

func TestCycRoot(t *testing.T) {
	hand := []impl.Cyc{
		cyc(1, 0, 0, 0), cyc(0, 1, 0, 0), cyc(0, 0, 1, 0), cyc(0, 0, 0, 1), cyc(-1, 0, 1, 0), cyc(0, -1, 0, 1),
		cyc(-1, 0, 0, 0), cyc(0, -1, 0, 0), cyc(0, 0, -1, 0), cyc(0, 0, 0, -1), cyc(1, 0, -1, 0), cyc(0, 1, 0, -1),
	}
	for k := int64(-60); k < 60; k++ {
		if got := impl.CycRoot(k); got != hand[(k+60)%12] || got != cycRootByRule(k) {
			t.Error(k, got)
		}
		if impl.CycConj(impl.CycRoot(k)) != impl.CycRoot(-k) || mustMul(t, impl.CycRoot(k), impl.CycRoot(7)) != impl.CycRoot(k+7) {
			t.Error(k)
		}
	}
	// The greatest number leaves 7 over 12, the least one 4.
	if impl.CycRoot(math.MaxInt64) != hand[7] || impl.CycRoot(math.MinInt64) != hand[4] || impl.CycRoot(math.MinInt64+1) != hand[5] {
		t.Error(impl.CycRoot(math.MaxInt64), impl.CycRoot(math.MinInt64))
	}
	var d dice
	for range 3000 {
		k := d.wildNumber()
		if got := impl.CycRoot(k); got != cycRootByRule(k) {
			t.Fatal(k, got)
		}
	}
}

func TestCycRealByHand(t *testing.T) {
	const m = cycMost
	for _, c := range []struct {
		a    impl.Cyc
		p, q int64
		ok   bool
	}{
		{impl.Cyc{}, 0, 0, true},
		{cyc(5, 0, 0, 0), 5, 0, true},
		{cyc(-m, 0, 0, 0), -m, 0, true},
		{cyc(0, 2, 0, -1), 0, 1, true},
		{cyc(3, -4, 0, 2), 3, -2, true},
		{cyc(m, m, 0, -m/2), m, m / 2, true},
		{cyc(m, -m, 0, m/2), m, -m / 2, true},
		{cyc(0, 1, 0, 0), 0, 0, false},
		{cyc(0, 0, 1, 0), 0, 0, false},
		{cyc(0, 0, 0, 1), 0, 0, false},
		{cyc(-1, 0, 2, 0), 0, 0, false},
		{cyc(0, 2, 0, 1), 0, 0, false},
		{cyc(0, 1, 0, -1), 0, 0, false},
		{cyc(4, 2, 1, -1), 0, 0, false},
		{cyc(m, m, m, m), 0, 0, false},
		{cyc(0, 2*m, 0, -m), 0, 0, false},
		{cyc(0, m+2, 0, -m/2-1), 0, 0, false},
		{cyc(m+1, 2, 0, -1), 0, 0, false},
		{cyc(0, math.MinInt64, 0, 1<<62), 0, 0, false},
	} {
		if p, q, ok := impl.CycReal(c.a); p != c.p || q != c.q || ok != c.ok {
			t.Error(c.a, p, q, ok)
		}
	}
}

func TestCycRealByRule(t *testing.T) {
	var d dice
	r := mustAdd(t, cycRootByRule(1), cycRootByRule(11))
	others := 0
	for i := range 3000 {
		a := d.cyc([]int64{2, 1000, 100000000}[i%3])
		whole := mustAdd(t, a, impl.CycConj(a))
		p, q, ok := impl.CycReal(whole)
		if !ok || mustAdd(t, cyc(p, 0, 0, 0), mustMul(t, cyc(q, 0, 0, 0), r)) != whole {
			t.Fatal(a, whole, p, q, ok)
		}
		own := cycConjByRule(a) == a
		if !own {
			others++
		}
		if p, q, ok := impl.CycReal(a); ok != own || !own && (p != 0 || q != 0) {
			t.Fatal(a, p, q, ok)
		}
	}
	if others < 2000 {
		t.Error(others)
	}
}

// A number times its conjugate is its size, which is never below 0.
func TestSizesAreAboveNought(t *testing.T) {
	var d dice
	for i := range 3000 {
		a := d.cyc([]int64{1, 30, 100000}[i%3])
		p, q, ok := impl.CycReal(mustMul(t, a, impl.CycConj(a)))
		want := int64(1)
		if a == (impl.Cyc{}) {
			want = 0
		}
		if !ok || impl.RealSign(p, q) != want {
			t.Fatal(a, p, q, ok)
		}
	}
}

func TestRealSignByHand(t *testing.T) {
	const m = cycMost
	for _, c := range []struct{ p, q, want int64 }{
		{0, 0, 0}, {1, 0, 1}, {-1, 0, -1}, {0, 1, 1}, {0, -1, -1}, {m, m, 1}, {-m, -m, -1}, {m, 0, 1}, {0, -m, -1},
		{1, 1, 1}, {-1, -1, -1}, {1, -1, -1}, {-1, 1, 1}, {2, -1, 1}, {-2, 1, -1}, {3, -2, -1}, {-3, 2, 1}, {7, -4, 1}, {-7, 4, -1},
		{m, -m, -1}, {-m, m, 1}, {m, -1, 1}, {-m, 1, -1}, {1, -m, -1}, {-1, m, 1},
		{m, -577350269189, 1}, {m, -577350269190, -1}, {-m, 577350269189, -1}, {-m, 577350269190, 1},
		{m + 1, 0, 0}, {-m - 1, 0, 0}, {0, m + 1, 0}, {0, -m - 1, 0}, {m + 1, m + 1, 0}, {m + 1, -m, 0}, {-m, m + 1, 0},
		{math.MaxInt64, 1, 0}, {1, math.MaxInt64, 0}, {math.MinInt64, -1, 0}, {-1, math.MinInt64, 0}, {math.MinInt64, math.MinInt64, 0},
	} {
		if got := impl.RealSign(c.p, c.q); got != c.want || got != signByRule(c.p, c.q) {
			t.Error(c, got)
		}
	}
}

// P9, where p + q r is as near to 0 as whole numbers in range allow: no float
// of 64 bits could tell it.
func TestRealSignNextToNought(t *testing.T) {
	greatest := int64(0)
	for _, n := range nearReals() {
		p, q := n[0], n[1]
		greatest = max(greatest, p)
		want := int64(1)
		if (p-q)%2 == 0 { // p² - 3 q² is -2
			want = -1
		}
		if got := impl.RealSign(p, -q); got != want || got != signByRule(p, -q) {
			t.Error(p, -q, got)
		}
		if got := impl.RealSign(-p, q); got != -want {
			t.Error(-p, q, got)
		}
		if impl.RealSign(p, q) != 1 || impl.RealSign(-p, -q) != -1 {
			t.Error(p, q)
		}
	}
	if greatest < cycMost/4 {
		t.Error("none is great:", greatest)
	}
}

func TestRealSignByRule(t *testing.T) {
	var d dice
	for i := range 6000 {
		p, q := d.between(-cycMost, cycMost), d.between(-cycMost, cycMost)
		switch i % 4 {
		case 0:
			p, q = d.between(-9, 9), d.between(-9, 9)
		case 1, 2: // the whole numbers next to q r
			q = d.between(-577350269189, 577350269189)
			below, _ := realByRule(0, -q).Int64()
			p = below + d.between(-1, 1)
		}
		if got := impl.RealSign(p, q); got != signByRule(p, q) || got != -impl.RealSign(-p, -q) {
			t.Fatal(p, q, got)
		}
	}
}

func TestCycFloatByHand(t *testing.T) {
	for _, c := range []struct {
		a      impl.Cyc
		re, im float64
	}{
		{impl.Cyc{}, 0, 0},
		{cyc(3, 0, 0, 0), 3, 0},
		{cyc(0, 0, 0, -4), 0, -4},
		{cyc(0, 1, 0, 0), 0.8660254037844386, 0.5},
		{cyc(0, 0, 1, 0), 0.5, 0.8660254037844386},
		{cyc(-1, 0, 1, 0), -0.5, 0.8660254037844386},
		{cyc(0, -1, 0, 1), -0.8660254037844386, 0.5},
		{cyc(-1, 0, 2, 0), 0, 1.7320508075688772},
		{cyc(0, -2, 0, 1), -1.7320508075688772, 0},
		{cyc(cycMost, 0, 0, -cycMost), cycMost, -cycMost},
		{cyc(0, cycMost, 0, 0), 866025403784.4386, 500000000000},
		{cyc(5, 0, -10, 0), 0, -8.660254037844386},
	} {
		if re, im := impl.CycFloat(c.a); !sameFloat(re, c.re) || !sameFloat(im, c.im) {
			t.Error(c.a, re, im)
		}
	}
}

func TestCycFloatByRule(t *testing.T) {
	var d dice
	for i := range 4000 {
		a := d.cyc([]int64{1, 12, 1000, 1000000, cycMost}[i%5])
		re, im := impl.CycFloat(a)
		if wantRe, wantIm := cycFloatByRule(a); !sameFloat(re, wantRe) || !sameFloat(im, wantIm) {
			t.Fatal(a, re, im)
		}
		if cmplx.Abs(complex(re, im)-sines(a)) > 1e-14*cycMost {
			t.Fatal(a, re, im)
		}
	}
}

func sameRows(a, b [][]impl.Cyc) bool {
	return slices.EqualFunc(a, b, func(x, y []impl.Cyc) bool { return slices.Equal(x, y) })
}

func TestCharactersByHand(t *testing.T) {
	one, minus := cyc(1, 0, 0, 0), cyc(-1, 0, 0, 0)
	i, back := cyc(0, 0, 0, 1), cyc(0, 0, 0, -1)
	third, other := cyc(-1, 0, 1, 0), cyc(0, 0, -1, 0)
	for n, want := range map[int64][][]impl.Cyc{
		1: {{one}},
		2: {{one, one}, {one, minus}},
		3: {{one, one, one}, {one, third, other}, {one, other, third}},
		4: {{one, one, one, one}, {one, i, minus, back}, {one, minus, one, minus}, {one, back, minus, i}},
	} {
		if got := impl.Characters(n); !sameRows(got, want) {
			t.Error(n, got)
		}
	}
}

func TestCharactersByRule(t *testing.T) {
	for _, n := range orders() {
		want := [][]impl.Cyc{}
		for k := range n {
			row := []impl.Cyc{}
			for j := range n {
				row = append(row, cycRootByRule(12*j*k/n))
			}
			want = append(want, row)
		}
		if got := impl.Characters(n); !sameRows(got, want) {
			t.Error(n, got)
		}
	}
}

// Two rows have nothing in common, and one has all in common with itself.
func TestCharactersAreApart(t *testing.T) {
	for _, n := range orders() {
		rows := impl.Characters(n)
		for k, row := range rows {
			for m, other := range rows {
				var sum impl.Cyc
				for j := range row {
					sum = mustAdd(t, sum, mustMul(t, row[j], impl.CycConj(other[j])))
				}
				want := impl.Cyc{}
				if k == m {
					want.A = n
				}
				if sum != want {
					t.Error(n, k, m, sum)
				}
			}
		}
	}
}

func TestCharactersOfAnotherOrder(t *testing.T) {
	list := []int64{0, -1, -2, -3, -4, -6, -12, 5, 7, 8, 9, 10, 11, 13, 24, 1 << 32, 12 << 32, math.MaxInt64, math.MinInt64}
	for _, n := range list {
		if got := impl.Characters(n); len(got) != 0 {
			t.Error(n, got)
		}
		for _, traces := range [][]int64{nil, {1}, make([]int64, max(0, min(n, 100)))} {
			if got, ok := impl.Reduced(n, traces); len(got) != 0 || ok {
				t.Error(n, traces, got, ok)
			}
		}
	}
}

func TestReducedByHand(t *testing.T) {
	regular := func(n int64) []int64 { return append([]int64{n}, make([]int64, n-1)...) }
	for _, c := range []struct {
		n            int64
		traces, want []int64
	}{
		{1, []int64{0}, []int64{0}},
		{1, []int64{7}, []int64{7}},
		{1, []int64{1000}, []int64{1000}},
		{2, []int64{0, 0}, []int64{0, 0}},
		{2, []int64{3, 1}, []int64{2, 1}},
		{2, []int64{3, -3}, []int64{0, 3}},
		{2, []int64{1000, -1000}, []int64{0, 1000}},
		{2, []int64{1000, 1000}, []int64{1000, 0}},
		{3, []int64{3, 0, 0}, []int64{1, 1, 1}},
		{3, []int64{2, -1, -1}, []int64{0, 1, 1}},
		{3, []int64{1, 1, 1}, []int64{1, 0, 0}},
		{4, []int64{3, 1, -1, 1}, []int64{1, 1, 0, 1}},
		{4, []int64{3, -1, -1, -1}, []int64{0, 1, 1, 1}},
		{4, []int64{1, -1, 1, -1}, []int64{0, 0, 1, 0}},
		{6, []int64{3, 2, 0, -1, 0, 2}, []int64{1, 1, 0, 0, 0, 1}},
		{6, []int64{2, -1, -1, 2, -1, -1}, []int64{0, 0, 1, 0, 1, 0}},
		{12, []int64{4, 0, 2, 0, -2, 0, -4, 0, -2, 0, 2, 0}, []int64{0, 1, 0, 0, 0, 1, 0, 1, 0, 0, 0, 1}},
		{12, regular(12), slices.Repeat([]int64{1}, 12)},
		{12, slices.Repeat([]int64{1000}, 12), append([]int64{1000}, make([]int64, 11)...)},
		{6, regular(6), slices.Repeat([]int64{1}, 6)},
	} {
		if got, ok := impl.Reduced(c.n, c.traces); !ok || !slices.Equal(got, c.want) {
			t.Error(c, got, ok)
		}
	}
}

func TestReducedRefuses(t *testing.T) {
	list := []struct {
		n      int64
		traces []int64
	}{
		{1, nil}, {1, []int64{}}, {1, []int64{1, 1}}, {2, []int64{2}}, {2, []int64{2, 0, 0}}, {3, []int64{3, 0}}, {3, []int64{3, 0, 0, 0}},
		{12, make([]int64, 11)}, {12, make([]int64, 13)}, {6, make([]int64, 12)}, {4, make([]int64, 1)},
		// A trace out of range, where all else would be right.
		{1, []int64{1001}}, {2, []int64{1001, 1001}}, {2, []int64{1001, -1001}}, {3, []int64{1002, 0, 0}}, {4, slices.Repeat([]int64{1001}, 4)},
		{1, []int64{math.MaxInt64}}, {1, []int64{math.MinInt64}}, {2, []int64{math.MinInt64, math.MinInt64}}, {4, []int64{1 << 62, 0, 0, 0}},
		{2, []int64{1000, 1002}}, {2, []int64{1000, -1002}}, {2, []int64{1000, math.MinInt64}},
		// No whole number.
		{2, []int64{1, 0}}, {2, []int64{2, 1}}, {3, []int64{1, 0, 0}}, {3, []int64{4, 0, 0}}, {4, []int64{2, 0, 0, 0}}, {6, []int64{3, 0, 0, 0, 0, 0}},
		{12, append([]int64{6}, make([]int64, 11)...)}, {12, append([]int64{13}, make([]int64, 11)...)},
		// No real number, or one with r in it.
		{3, []int64{3, 3, 0}}, {3, []int64{3, 1, -1}}, {4, []int64{4, 1, 0, -1}}, {6, []int64{6, 3, 0, 0, 0, -3}},
		{12, []int64{24, 12, 0, 0, 0, 0, 0, 0, 0, 0, 0, 12}},
		{12, []int64{24, 12, 0, 0, 0, -12, 0, -12, 0, 0, 0, 12}},
		// Below 0.
		{1, []int64{-1}}, {1, []int64{-1000}}, {2, []int64{0, 2}}, {2, []int64{0, -2}}, {2, []int64{-1000, -1000}}, {3, []int64{-3, 0, 0}},
		{3, []int64{0, 3, 3}}, {4, []int64{0, 0, 4, 0}}, {12, slices.Repeat([]int64{-1}, 12)}, {12, append([]int64{-12}, make([]int64, 11)...)},
	}
	for _, c := range list {
		if got, ok := impl.Reduced(c.n, c.traces); len(got) != 0 || ok {
			t.Error(c, got, ok)
		}
	}
}

// P10: how often each row stands is told again, and the traces are the sums.
func TestReducedTellsHowOftenEachStands(t *testing.T) {
	var d dice
	for _, n := range orders() {
		rows := impl.Characters(n)
		for i := range 400 {
			times := d.times(n, []int64{1, 3, 83}[i%3])
			traces, ok := tracesOf(n, times)
			if !ok {
				t.Fatal(n, times)
			}
			got, ok := impl.Reduced(n, traces)
			if !ok || !slices.Equal(got, times) {
				t.Fatal(n, times, traces, got, ok)
			}
			for j, trace := range traces {
				var sum impl.Cyc
				for k, row := range rows {
					sum = mustAdd(t, sum, mustMul(t, row[j], cyc(got[k], 0, 0, 0)))
				}
				if sum != cyc(trace, 0, 0, 0) {
					t.Fatal(n, times, j, trace, sum)
				}
			}
		}
	}
}

func TestReducedByRule(t *testing.T) {
	var d dice
	right, wrong := 0, 0
	for i := range 12000 {
		n := orders()[i%6]
		traces := d.numbers(int(n), []int64{1, 4, 24, 1000, 1001}[i/6%5])
		switch i % 4 {
		case 0:
			traces, _ = tracesOf(n, d.times(n, 5))
			traces[d.between(0, n-1)] += n * d.between(-1, 1)
		case 1: // even ones, so that all sums are real
			for j := range traces {
				traces[j] = traces[min(j, (len(traces)-j)%len(traces))] / n * n
			}
		}
		want, wantOk := timesByRule(n, traces)
		got, ok := impl.Reduced(n, traces)
		if ok != wantOk || !slices.Equal(got, want) {
			t.Fatal(n, traces, got, ok, want, wantOk)
		}
		if ok {
			right++
		} else {
			wrong++
		}
	}
	if right < 1000 || wrong < 3000 {
		t.Error(right, wrong)
	}
}

// All traces that are small, of the groups that are small.
func TestReducedOfAllSmallTraces(t *testing.T) {
	for _, n := range []int64{1, 2, 3, 4} {
		count := int64(1)
		for range n {
			count *= 11
		}
		for code := range count {
			traces := []int64{}
			for c := code; int64(len(traces)) < n; c /= 11 {
				traces = append(traces, c%11-5)
			}
			want, wantOk := timesByRule(n, traces)
			if got, ok := impl.Reduced(n, traces); ok != wantOk || !slices.Equal(got, want) {
				t.Fatal(n, traces, got, ok, want)
			}
		}
	}
}

func TestCycloArgumentsStay(t *testing.T) {
	for _, room := range [][]int64{{3, 1, -1, 1, 77, 88}, {3, 1, -1, 2, 77, 88}, {1001, 0, 0, 0, 77}, {0, 0, 4, 0, 77}} {
		want := slices.Clone(room)
		got, _ := impl.Reduced(4, room[:4])
		for i := range got {
			got[i] = -9
		}
		impl.Reduced(3, room[:4])
		impl.Reduced(5, room[:4])
		if !slices.Equal(room, want) {
			t.Error(room, want)
		}
	}
	// What lies behind the list is not of it.
	if got, ok := impl.Reduced(2, []int64{3, 1, 1, 1}[:2]); !ok || !slices.Equal(got, []int64{2, 1}) {
		t.Error(got, ok)
	}
	if got, ok := impl.Reduced(4, []int64{3, 1, -1, 1}[:3]); ok || len(got) != 0 {
		t.Error(got, ok)
	}
}

func TestCycloAnswersAreNewMemory(t *testing.T) {
	traces := []int64{3, 1, -1, 1}
	checkNewList(t, "Reduced", func() []int64 { got, _ := impl.Reduced(4, traces); return got })
	for _, n := range orders() {
		checkNewList(t, "a row", func() []impl.Cyc { return impl.Characters(n)[n-1] })
		first, second := impl.Characters(n), impl.Characters(n)
		for k := range first {
			row := first[k][:cap(first[k])]
			for j := range row {
				row[j] = cyc(9, 9, 9, int64(k))
			}
			for m := range first {
				if m > k && !slices.Equal(first[m], second[m]) || m < k && first[m][0].D != int64(m) {
					t.Error(n, "two rows share memory:", k, m)
				}
			}
		}
		for k := range second {
			if second[k][0] != cyc(1, 0, 0, 0) || !slices.Equal(second[k], impl.Characters(n)[k]) || impl.CycRoot(12*int64(k)/n) != second[1%n][k%int(n)] {
				t.Error(n, k, second[k])
			}
		}
	}
}

func TestCycloAnswersAtEveryArgument(t *testing.T) {
	var d dice
	for range 20000 {
		a, b := d.wildCyc(), d.wildCyc()
		if impl.CycOk(a) != isCycByRule(a) {
			t.Fatal(a)
		}
		checkPair(t, a, b)
		if _, _, ok := impl.CycReal(a); ok != (isCycByRule(a) && a.C == 0 && a.B == -2*a.D) {
			t.Fatal("CycReal", a, ok)
		}
		p, q := d.wildNumber(), d.wildNumber()
		if got := impl.RealSign(p, q); got != signByRule(p, q) {
			t.Fatal("RealSign", p, q, got)
		}
		n := d.between(-1, 13)
		if d.between(0, 3) == 0 {
			n = d.wildNumber()
		}
		traces := []int64{}
		for range d.between(0, 13) {
			traces = append(traces, d.wildNumber())
		}
		if got := impl.Characters(n); (len(got) > 0) != slices.Contains(orders(), n) {
			t.Fatal("Characters", n, got)
		}
		want, wantOk := timesByRule(n, traces)
		if got, ok := impl.Reduced(n, traces); ok != wantOk || !slices.Equal(got, want) {
			t.Fatal("Reduced", n, traces, got, ok)
		}
	}
}
