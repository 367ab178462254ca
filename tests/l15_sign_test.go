package tests

import (
	"math"
	"math/big"
	"slices"
	"sync"
	"testing"

	"loop.example/g00055/impl"
)

func TestSignLimits(t *testing.T) {
	got := []int64{impl.MaxReal, impl.MaxSigns, impl.MaxTape, impl.MaxInputs, impl.MaxX, impl.MaxDepth, impl.MaxRounds, impl.Prime, impl.MaxHkl}
	if !slices.Equal(got, []int64{realMost, signsMost, tapeMost, inputsMost, xMost, depthMost, roundsMost, tapePrime, hklMost}) {
		t.Error(got)
	}
	got = []int64{impl.OpIn, impl.OpSum, impl.OpProduct, impl.OpMinus, impl.OpConst}
	if !slices.Equal(got, []int64{kindIn, kindSum, kindProduct, kindMinus, kindConst}) {
		t.Error(got)
	}
}

func TestCertainByHand(t *testing.T) {
	for _, c := range []struct {
		why              string
		f0, p, q, p2, q2 int64
		want             bool
	}{
		{"all 0", 0, 0, 0, 0, 0, false},
		{"far above", 10, 9, 0, 2, 0, true},
		{"far below", 10, 5, 0, 2, 0, false},
		{"F below 0", 10, -9, 0, 2, 0, true},
		{"just equal", 8, 4, 0, 4, 0, false},
		{"one more of E", 8, 4, 0, 5, 0, true},
		{"one less of E", 8, 4, 0, 3, 0, false},
		{"just equal with Q and Q2", 8, 2, 2, 4, -2, false},
		{"just equal with Q alone", 12, 0, 4, 4, 0, false},
		{"with Q alone, above", 12, 0, 4, 5, 0, true},
		{"with Q alone, below", 12, 0, 4, 3, 0, false},
		{"with Q below 0", 12, 0, -4, 5, 0, true},
		{"P and Q against each other", 10, 7, -4, 9, 0, false},
		{"P and Q with each other", 10, 7, 4, 0, 0, true},
		{"with Q2 alone, above", 10, 5, 0, 0, 3, true},
		{"with Q2 alone, below", 10, 5, 0, 0, 2, false},
		{"E by a little above 0", 2, 1, 0, 26, -15, false},
		{"E of 0, above", 7, 5, 0, 0, 0, true},
		{"E of 0, below", 7, 4, 0, 0, 0, false},
		{"E of 0, just below by r", 1, 3, -2, 0, 0, false},
		{"E below 0 by P2", 10, 9, 0, -2, 0, false},
		{"E below 0 by Q2", 10, 9, 0, 0, -1, false},
		{"E below 0 by Q2 beside P2", 10, 9, 0, 1, -1, false},
		{"E below 0 by P2 beside Q2", 10, 9, 0, -2, 1, false},
		{"E above 0 beside a P2 below 0", 10, 9, 0, -1, 1, true},
		{"E above 0 beside a Q2 below 0", 10, 9, 0, 2, -1, true},
		{"E below 0 by a little", 10, 9, 0, -26, 15, false},
		{"f0 of 0, F of 0", 0, 0, 0, 5, 5, false},
		{"f0 of 0", 0, 1, 0, 0, 0, true},
		{"f0 of 0, F by a little", 0, 26, -15, 0, 0, true},
		{"F of 0, E as great as f0", 10, 0, 0, 10, 0, false},
		{"F of 0, E greater than f0", 10, 0, 0, 11, 0, true},
		{"F of 0, E greater by r", 10, 0, 0, 0, 6, true},
		{"F of 0, E less by r", 10, 0, 0, 0, 5, false},
		{"the greatest", realMost, realMost, realMost, realMost, realMost, true},
		{"the greatest against the rest", realMost, 0, 0, realMost, -5773, false},
		{"at the edges, equal", realMost, 0, 0, realMost, 0, false},
		{"at the edges, one less than equal", realMost, 0, 0, realMost - 1, 0, false},
		{"at the edges, above by F", realMost, 1, 0, realMost, 0, true},
	} {
		if got := impl.Certain(c.f0, c.p, c.q, c.p2, c.q2); got != c.want {
			t.Error(c.why, got)
		}
		if got := certainByRule(c.f0, c.p, c.q, c.p2, c.q2); got != c.want {
			t.Error(c.why, "by the rule", got)
		}
	}
}

func checkCertain(t *testing.T, f0, p, q, p2, q2 int64) bool {
	t.Helper()
	got := impl.Certain(f0, p, q, p2, q2)
	if got != certainByRule(f0, p, q, p2, q2) {
		t.Error(f0, p, q, p2, q2, got)
	}
	return got
}

// All small numbers: among them 2 F² is equal to f0 (f0 - E) with each of Q and
// Q2 at 0 and not.
func TestCertainOfSmallNumbers(t *testing.T) {
	equal := map[[2]bool]int{}
	for f0 := int64(0); f0 <= 12; f0++ {
		for p := int64(-5); p <= 5; p++ {
			for q := int64(-3); q <= 3; q++ {
				for p2 := int64(-7); p2 <= 12; p2++ {
					for q2 := int64(-4); q2 <= 4; q2++ {
						got := checkCertain(t, f0, p, q, p2, q2)
						if areRealByRule(f0, p, q, p2, q2) && marginOf(f0, p, q, p2, q2).sign() == 0 {
							equal[[2]bool{q == 0, q2 == 0}]++
							if got {
								t.Error(f0, p, q, p2, q2)
							}
						}
					}
				}
			}
		}
	}
	for _, kind := range [][2]bool{{true, true}, {false, true}, {false, false}} {
		if equal[kind] < 10 {
			t.Error("too few that are equal:", equal)
		}
	}
}

func TestCertainByRule(t *testing.T) {
	var d dice
	kinds := [3]int{}
	for range 40000 {
		most := []int64{3, 30, 1000, realMost}[d.between(0, 3)]
		f0, n := d.between(0, most), d.numbers(4, most)
		if d.between(0, 1) == 0 {
			n = d.numbers(4, f0/2)
		}
		for i := range n {
			if d.between(0, 3) == 0 {
				n[i] = 0
			}
		}
		switch {
		case checkCertain(t, f0, n[0], n[1], n[2], n[3]):
			kinds[0]++
		case areRealByRule(f0, n[0], n[1], n[2], n[3]):
			kinds[1]++
		default:
			kinds[2]++
		}
	}
	if slices.Min(kinds[:]) < 5000 {
		t.Error("too few of a kind:", kinds)
	}
}

// 2 F² as near to f0 (f0 - E) as whole P2 let it come, on either side.
func TestCertainJustThere(t *testing.T) {
	var d dice
	above, below, equal := 0, 0, 0
	for range 20000 {
		f0 := d.between(1, []int64{20, 300, realMost}[d.between(0, 2)])
		p, q, q2 := d.between(-f0, f0), d.between(-f0/3, f0/3), d.between(-f0/3, f0/3)
		switch d.between(0, 3) {
		case 0:
			q = 0
		case 1:
			q, q2 = 0, 0
		}
		root := math.Sqrt(3)
		f := float64(p) + float64(q)*root
		near := int64(math.Round(float64(f0) - 2*f*f/float64(f0) - float64(q2)*root))
		for _, p2 := range []int64{near - 1, near, near + 1} {
			got := checkCertain(t, f0, p, q, p2, q2)
			if !areRealByRule(f0, p, q, p2, q2) {
				continue
			}
			switch marginOf(f0, p, q, p2, q2).sign() {
			case 1:
				above++
			case -1:
				below++
			default:
				equal++
			}
			if got != (marginOf(f0, p, q, p2, q2).sign() > 0) {
				t.Error(f0, p, q, p2, q2)
			}
		}
	}
	if min(above, below) < 5000 || equal < 20 {
		t.Error("too few of a kind:", above, below, equal)
	}
	// of p - q r that are as near to 0 as they can be
	for _, pair := range nearReals() {
		if p, q := pair[0], pair[1]; p <= realMost {
			for _, f0 := range []int64{0, 1, 2, 7, realMost} {
				for _, e := range []int64{-1, 0, 1, f0 - 1, f0, f0 + 1} {
					checkCertain(t, f0, p, -q, e, 0)
					checkCertain(t, f0, e, 0, p, -q)
					checkCertain(t, f0, 0, 1, -p, q)
				}
			}
		}
	}
}

func TestCertainEdges(t *testing.T) {
	numbers := []int64{math.MinInt64, -realMost - 1, -realMost, 0, 1, realMost, realMost + 1, math.MaxInt64}
	right := 0
	for _, f0 := range numbers {
		for _, p := range numbers {
			for _, q := range numbers {
				for _, p2 := range numbers {
					for _, q2 := range numbers {
						if checkCertain(t, f0, p, q, p2, q2) {
							right++
						}
					}
				}
			}
		}
	}
	if right < 100 {
		t.Error("too few that are certain:", right)
	}
	// each number alone, in what is certain
	certain := [5]int64{10, 9, 1, 8, 1}
	for place := range certain {
		for _, n := range []int64{realMost + 1, -realMost - 1, 1 << 32, -1 << 32, 1<<32 + 9, math.MaxInt64, math.MinInt64, math.MinInt64 + 1} {
			c := certain
			c[place] = n
			if impl.Certain(c[0], c[1], c[2], c[3], c[4]) {
				t.Error(c)
			}
		}
		for _, n := range []int64{0, 1, realMost, -realMost, -1} {
			c := certain
			c[place] = n
			checkCertain(t, c[0], c[1], c[2], c[3], c[4])
		}
	}
	for _, c := range [][5]int64{{realMost, realMost, 0, 0, 0}, {1, realMost, 0, 0, 0}, {1, -realMost, 0, 0, 0}, {1, 0, realMost, 0, 0}, {1, 0, -realMost, 0, 0}, {2, 0, 0, realMost, 0}, {2, 0, 0, 0, realMost}, {2, 9, 0, realMost, -5773}, {2, 9, 0, -realMost, 5774}} {
		if !impl.Certain(c[0], c[1], c[2], c[3], c[4]) {
			t.Error(c)
		}
	}
	for _, c := range [][5]int64{{-1, 9, 0, 8, 0}, {2, 9, 0, realMost, -5774}, {2, 9, 0, -realMost, 5773}} {
		if impl.Certain(c[0], c[1], c[2], c[3], c[4]) {
			t.Error(c)
		}
	}
}

// P19: what Certain tells holds for every structure that Signed tells with no F
// below 0; and what it leans on does.
func TestCertainOfStructures(t *testing.T) {
	var d dice
	certain, open, below, moved := 0, 0, 0, 0
	for range 500 {
		atoms := d.signedAtoms(int(d.between(0, 5)), d.between(0, 60), d.between(1, 40))
		if !impl.Signed(atoms) {
			t.Fatal(atoms)
		}
		f0, rest := realParts(atoms, impl.Hkl{})
		if rest != 0 || f0 < 0 {
			t.Fatal(atoms, f0, rest)
		}
		for range 20 {
			h := d.hkl(6)
			p, q := realParts(atoms, h)
			p2, q2 := realParts(atoms, hkl(2*h.H, 2*h.K, 2*h.L))
			size, sign := surdOf(p2, q2), int64(1)
			if size.sign() < 0 {
				sign = -1
			}
			got := checkCertain(t, f0, p, q, sign*p2, sign*q2)
			if marginOf(f0, p, q, -p2, -q2).sign() > 0 {
				t.Error(atoms, h, "2 F² is above f0 (f0 + F(2h))")
			}
			switch {
			case got && size.sign() <= 0:
				t.Error(atoms, h, "is not certain")
			case got:
				certain++
				if surdOf(p, q).sign() < 0 {
					moved++
				}
			case size.sign() < 0:
				below++
			default:
				open++
			}
		}
	}
	if min(certain, open, below, moved) < 500 {
		t.Error("too few of a kind:", certain, open, below, moved)
	}
}

// Of two atoms that lie across from each other 2 F² is just f0 (f0 + F(2h)), and
// F(2h) may be below 0: equal is not enough.
func TestCertainOfStructuresThatAreEqual(t *testing.T) {
	for x := range int64(12) {
		a := atom(x, 0, 0, 12)
		atoms := []impl.Atom{a, across(a)}
		f0, _ := realParts(atoms, impl.Hkl{})
		p, q := realParts(atoms, hkl(1, 0, 0))
		p2, q2 := realParts(atoms, hkl(2, 0, 0))
		if f0 != 24 || marginOf(f0, p, q, -p2, -q2).sign() != 0 {
			t.Error(x, f0, p, q, p2, q2)
		}
		above := surdOf(p2, q2).sign() > 0
		if !above {
			p2, q2 = -p2, -q2
		}
		if got := impl.Certain(f0, p, q, p2, q2); got != above {
			t.Error(x, f0, p, q, p2, q2, got)
		}
	}
}

func TestTripletByHand(t *testing.T) {
	for _, c := range []struct {
		why           string
		signs         []impl.Signed3
		one, minusOne int64
	}{
		{"none", nil, 0, 0},
		{"an empty list", []impl.Signed3{}, 0, 0},
		{"one", signed(1, 2, 3, 1), 0, 0},
		{"one of 0", signed(0, 0, 0, 1), 0, 0},
		{"the given ones", handSigns(), 1, 1},
		{"a third one above", signed(1, 0, 0, 1, 0, 1, 0, 1, 1, 1, 0, 1), 1, 0},
		{"a third one between", signed(1, 0, 0, 1, 1, 1, 0, 1, 0, 1, 0, 1), 1, 0},
		{"a third one below", signed(1, 1, 0, 1, 1, 0, 0, 1, 0, 1, 0, 1), 1, 0},
		{"its sign is -1", signed(1, 1, 0, -1, 1, 0, 0, 1, 0, 1, 0, 1), 0, 1},
		{"the first one's is -1", signed(1, 1, 0, 1, 1, 0, 0, -1, 0, 1, 0, 1), 0, 1},
		{"the second one's is -1", signed(1, 1, 0, 1, 1, 0, 0, 1, 0, 1, 0, -1), 0, 1},
		{"two are -1", signed(1, 1, 0, -1, 1, 0, 0, 1, 0, 1, 0, -1), 1, 0},
		{"all are -1", signed(1, 1, 0, -1, 1, 0, 0, -1, 0, 1, 0, -1), 0, 1},
		{"one of the two, the first", signed(1, 2, 3, 1, 0, 0, 0, 1), 1, 0},
		{"one of the two, the second", signed(0, 0, 0, 1, 1, 2, 3, 1), 1, 0},
		{"one of the two, both -1", signed(0, 0, 0, -1, 1, 2, 3, -1), 0, 1},
		{"one of the two, the one of 0 is -1", signed(1, 2, 3, 1, 0, 0, 0, -1), 0, 1},
		{"one of the two, the other one is -1", signed(1, 2, 3, -1, 0, 0, 0, 1), 1, 0},
		{"the one of 0 with many", signed(1, 2, 3, -1, 0, 0, 0, 1, 5, 5, 5, 1, 7, 0, 0, -1), 3, 0},
		{"opposites and 0", signed(1, 2, 3, 1, -1, -2, -3, -1, 0, 0, 0, 1), 2, 1},
		{"no one twice as its own pair", signed(1, 0, 0, 1, 2, 0, 0, 1), 0, 0},
		{"a row", signed(1, 0, 0, 1, 2, 0, 0, 1, 3, 0, 0, 1, 4, 0, 0, 1), 2, 0},
		{"a row either way", signed(-2, 0, 0, 1, -1, 0, 0, 1, 1, 0, 0, 1, 2, 0, 0, 1), 2, 0},
		{"H alone agrees", signed(1, 0, 0, 1, 2, 0, 0, 1, 3, 1, 0, 1, 3, 0, 1, 1), 0, 0},
		{"at the edges", signed(100, 0, -100, 1, 0, 100, 0, -1, 100, 100, -100, 1), 0, 1},
		{"sums past the edges", signed(100, 0, 0, 1, 99, 0, 0, 1, -100, 0, 0, 1, 1, 0, 0, -1), 0, 1},
	} {
		if one, minusOne := impl.Triplet(c.signs); one != c.one || minusOne != c.minusOne {
			t.Error(c.why, one, minusOne)
		}
		if one, minusOne := tripletByRule(c.signs); one != c.one || minusOne != c.minusOne {
			t.Error(c.why, "by the rule", one, minusOne)
		}
	}
}

func checkTriplet(t *testing.T, signs []impl.Signed3) (int64, int64) {
	t.Helper()
	one, minusOne := impl.Triplet(signs)
	if wantOne, wantMinus := tripletByRule(signs); one != wantOne || minusOne != wantMinus {
		t.Error(signs, one, minusOne, wantOne, wantMinus)
	}
	return one, minusOne
}

func TestTripletByRule(t *testing.T) {
	var d dice
	places := [5]int{} // of the third one: below, the first, between, the second, above
	for range 400 {
		signs := d.signsOf(int(d.between(0, signsMost)), d.between(1, 5))
		checkTriplet(t, signs)
		for _, p := range triplesByRule(signs) {
			switch {
			case p[2] < p[0]:
				places[0]++
			case p[2] == p[0]:
				places[1]++
			case p[2] < p[1]:
				places[2]++
			case p[2] == p[1]:
				places[3]++
			default:
				places[4]++
			}
		}
	}
	if slices.Min(places[:]) < 500 {
		t.Error("too few of a kind:", places)
	}
}

// As the third one may stand anywhere, no order decides; and all signs turned
// turn every product.
func TestTripletInEveryOrder(t *testing.T) {
	var d dice
	for _, order := range ordersOf(4) {
		signs := []impl.Signed3{}
		for _, i := range order {
			signs = append(signs, handSigns()[i])
		}
		if one, minusOne := impl.Triplet(signs); one != 1 || minusOne != 1 {
			t.Error(signs, one, minusOne)
		}
	}
	for range 200 {
		signs := d.signsOf(int(d.between(3, 40)), 3)
		one, minusOne := impl.Triplet(signs)
		if a, b := impl.Triplet(shuffledList(&d, signs)); a != one || b != minusOne {
			t.Error(signs, a, b)
		}
		turned := slices.Clone(signs)
		for i := range turned {
			turned[i].Sign = -turned[i].Sign
		}
		if a, b := impl.Triplet(turned); a != minusOne || b != one {
			t.Error(signs, a, b)
		}
	}
}

func checkNoSigns(t *testing.T, signs []impl.Signed3) {
	t.Helper()
	if one, minusOne := impl.Triplet(signs); one != 0 || minusOne != 0 {
		t.Error(signs, one, minusOne)
	}
	for _, h := range []impl.Hkl{hkl(0, 0, 0), hkl(1, 1, 0), hkl(2, 1, 0)} {
		if got := impl.Deduce(signs, h, 1); got != 0 {
			t.Error(signs, h, got)
		}
	}
}

func TestTripletRefuses(t *testing.T) {
	for _, s := range wrongSigned() {
		for place := range len(handSigns()) + 1 {
			checkNoSigns(t, slices.Insert(handSigns(), place, s))
		}
		checkNoSigns(t, []impl.Signed3{s})
	}
	// two with one h, k, l, of one sign or not, wherever they stand
	for i, s := range handSigns() {
		for place := range len(handSigns()) + 1 {
			twice := slices.Insert(handSigns(), place, s)
			checkNoSigns(t, twice)
			twice[place].Sign = -twice[place].Sign
			checkNoSigns(t, twice)
		}
		for _, other := range []impl.Signed3{{H: s.H + 7, K: s.K, L: s.L, Sign: 1}, {H: s.H, K: s.K + 7, L: s.L, Sign: 1}, {H: s.H, K: s.K, L: s.L + 7, Sign: 1}} {
			if one, minusOne := checkTriplet(t, append(handSigns(), other)); one+minusOne < 2 {
				t.Error(i, other, one, minusOne)
			}
		}
	}
}

func TestSignedEdges(t *testing.T) {
	numbers := []int64{math.MinInt64, -hklMost - 1, -hklMost, -1, 0, 1, hklMost, hklMost + 1, math.MaxInt64}
	signs := []int64{math.MinInt64, -2, -1, 0, 1, 2, math.MaxInt64}
	for place := range 3 {
		for _, n := range numbers {
			for _, sign := range signs {
				three := [3]int64{3, 4, 5}
				three[place] = n
				list := append(handSigns(), impl.Signed3{H: three[0], K: three[1], L: three[2], Sign: sign})
				right := n >= -hklMost && n <= hklMost && (sign == 1 || sign == -1)
				one, minusOne := checkTriplet(t, list)
				if (one+minusOne > 0) != right {
					t.Error(list, one, minusOne)
				}
				if got := impl.Deduce(list, hkl(2, 1, 0), 1); (got == 1) != right || got < 0 {
					t.Error(list, got)
				}
			}
		}
	}
}

func TestTripletTakesMaxSignsAndNoMore(t *testing.T) {
	var d dice
	row := []impl.Signed3{}
	for n := range int64(signsMost + 2) {
		row = append(row, impl.Signed3{H: n - 20, Sign: 1})
	}
	for _, count := range []int{signsMost - 1, signsMost} {
		if one, minusOne := checkTriplet(t, row[:count]); one < 500 || minusOne != 0 {
			t.Error(count, one, minusOne)
		}
		if got := impl.Deduce(row[:count], hkl(5, 0, 0), 20); got != 1 {
			t.Error(count, got)
		}
		checkTriplet(t, d.signsOf(count, 3))
	}
	for _, more := range [][]impl.Signed3{row[:signsMost+1], row, slices.Repeat(row, 100)} {
		checkNoSigns(t, more)
	}
}

func TestDeduceByHand(t *testing.T) {
	row := signed(1, 0, 0, 1, 2, 0, 0, -1, 3, 0, 0, -1, 4, 0, 0, 1, 0, 0, 0, 1)
	for _, c := range []struct {
		why     string
		signs   []impl.Signed3
		h       impl.Hkl
		atLeast int64
		want    int64
	}{
		{"none", nil, hkl(0, 0, 0), 1, 0},
		{"one", signed(1, 0, 0, 1), hkl(2, 0, 0), 1, 0},
		{"one pair", signed(1, 0, 0, 1, 0, 1, 0, 1), hkl(1, 1, 0), 1, 1},
		{"one pair, unlike", signed(1, 0, 0, 1, 0, 1, 0, -1), hkl(1, 1, 0), 1, -1},
		{"one pair, both -1", signed(1, 0, 0, -1, 0, 1, 0, -1), hkl(1, 1, 0), 1, 1},
		{"one pair is too few", signed(1, 0, 0, 1, 0, 1, 0, 1), hkl(1, 1, 0), 2, 0},
		{"one unlike pair is too few", signed(1, 0, 0, 1, 0, 1, 0, -1), hkl(1, 1, 0), 2, 0},
		{"none adds up to it", signed(1, 0, 0, 1, 0, 1, 0, 1), hkl(1, 1, 1), 1, 0},
		{"with 0", signed(5, 6, 7, -1, 0, 0, 0, 1), hkl(5, 6, 7), 1, -1},
		{"with 0 of -1", signed(0, 0, 0, -1, 5, 6, 7, -1), hkl(5, 6, 7), 1, 1},
		{"opposites", signed(5, 6, 7, -1, -5, -6, -7, 1), hkl(0, 0, 0), 1, -1},
		{"two against each other", row, hkl(5, 0, 0), 1, 1},
		{"of 3", row, hkl(3, 0, 0), 2, -1},
		{"of 3, more is asked", row, hkl(3, 0, 0), 3, 0},
		{"of 4", row, hkl(4, 0, 0), 1, 0},
		{"of 5, more is asked", row, hkl(5, 0, 0), 3, 0},
		{"of 5, just so many", row, hkl(5, 0, 0), 2, 1},
		{"at the edges", signed(100, -50, 0, 1, 0, -50, 100, -1), hkl(100, -100, 100), 1, -1},
		{"past the edges", signed(100, -50, 0, 1, 1, -50, 100, -1), hkl(101, -100, 100), 1, 0},
	} {
		if got := impl.Deduce(c.signs, c.h, c.atLeast); got != c.want {
			t.Error(c.why, got)
		}
		if got := deduceByRule(c.signs, c.h, c.atLeast); got != c.want {
			t.Error(c.why, "by the rule", got)
		}
	}
}

func checkDeduce(t *testing.T, signs []impl.Signed3, h impl.Hkl, atLeast int64) int64 {
	t.Helper()
	got := impl.Deduce(signs, h, atLeast)
	if want := deduceByRule(signs, h, atLeast); got != want {
		t.Error(signs, h, atLeast, got, want)
	}
	return got
}

func TestDeduceByRule(t *testing.T) {
	var d dice
	kinds, itself := map[int64]int{}, 0
	for range 400 {
		most := d.between(1, 2)
		signs := d.signsOf(int(d.between(0, signsMost)), most)
		for range 30 {
			h := d.hkl(most + 1)
			kinds[checkDeduce(t, signs, h, d.between(1, 4))]++
			if slices.ContainsFunc(signs, func(s impl.Signed3) bool { return s.H == 0 && s.K == 0 && s.L == 0 }) && slices.ContainsFunc(signs, func(s impl.Signed3) bool { return hklOfSigned(s) == h }) {
				itself++
			}
		}
	}
	if min(kinds[-1], kinds[0], kinds[1], itself) < 500 {
		t.Error("too few of a kind:", kinds, itself)
	}
}

// The sum at atLeast, one below and one above, and so at -atLeast.
func TestDeduceJustThere(t *testing.T) {
	var d dice
	h := hkl(4, 0, 0)
	for alike := range int64(31) {
		for _, unlike := range []int64{0, 1, 2, 7, 15, 29, 30} {
			if alike+unlike > 30 {
				continue
			}
			signs := pairedSigns(&d, alike, unlike)
			sum, pairs := sumToByRule(signs, h)
			if sum != alike-unlike || pairs != alike+unlike {
				t.Fatal(signs, sum, pairs)
			}
			for _, atLeast := range []int64{1, 2, sum - 1, sum, sum + 1, -sum - 1, -sum, -sum + 1, 29, 30, 31, signsMost} {
				if atLeast < 1 {
					continue
				}
				want := int64(0)
				if sum >= atLeast {
					want = 1
				} else if sum <= -atLeast {
					want = -1
				}
				if got := impl.Deduce(signs, h, atLeast); got != want {
					t.Error(signs, atLeast, got, want)
				}
			}
		}
	}
}

// A pair counts once, whichever of the two comes first.
func TestDeduceInEveryOrder(t *testing.T) {
	var d dice
	for range 300 {
		signs := d.signsOf(int(d.between(2, 40)), 2)
		h, atLeast := d.hkl(3), d.between(1, 4)
		if got, want := impl.Deduce(shuffledList(&d, signs), h, atLeast), impl.Deduce(signs, h, atLeast); got != want {
			t.Error(signs, h, atLeast, got, want)
		}
	}
}

func TestDeduceRefuses(t *testing.T) {
	h := hkl(2, 1, 0)
	if got := impl.Deduce(handSigns(), h, 1); got != 1 {
		t.Error(got)
	}
	for _, atLeast := range []int64{0, -1, -signsMost, signsMost + 1, 1 << 32, 1<<32 + 1, math.MaxInt64, math.MinInt64, math.MinInt64 + 1} {
		for _, signs := range [][]impl.Signed3{nil, handSigns(), pairedSigns(new(dice), 30, 0), pairedSigns(new(dice), 0, 30)} {
			for _, h := range []impl.Hkl{h, hkl(4, 0, 0), hkl(50, 50, 50)} {
				if got := impl.Deduce(signs, h, atLeast); got != 0 {
					t.Error(signs, h, atLeast, got)
				}
			}
		}
	}
	for _, no := range wrongHkls() {
		for _, signs := range [][]impl.Signed3{nil, handSigns(), signed(100, 0, 0, 1, 1, 0, 0, 1, 0, 100, 0, 1, 0, 1, 0, 1, 0, 0, 100, 1, 0, 0, 1, 1, -100, 0, 0, 1, -1, 0, 0, 1)} {
			if got := impl.Deduce(signs, no, 1); got != 0 {
				t.Error(signs, no, got)
			}
		}
	}
	// at the edge it is told, one past it not
	for _, c := range []struct {
		far  int64
		want int64
	}{{99, 1}, {100, 1}, {101, 0}} {
		for place := range 3 {
			for _, sign := range []int64{1, -1} {
				one, other := [3]int64{}, [3]int64{}
				one[place], other[place] = sign*60, sign*(c.far-60)
				signs := signed(one[0], one[1], one[2], 1, other[0], other[1], other[2], 1)
				if got := impl.Deduce(signs, hkl(one[0]+other[0], one[1]+other[1], one[2]+other[2]), 1); got != c.want {
					t.Error(signs, got)
				}
			}
		}
	}
}

// P19: of a single atom at halves all triples' products are 1, and each sign
// that enough pairs tell is its own.
func TestDeduceOfOriginsMovedByHalves(t *testing.T) {
	var d dice
	told, minus, unknown := 0, 0, 0
	for n := range int64(8) {
		halves := [3]int64{n & 1, n >> 1 & 1, n >> 2 & 1}
		atoms := []impl.Atom{atom(6*halves[0], 6*halves[1], 6*halves[2], 7)}
		for range 40 {
			most := d.between(1, 3)
			signs := d.signsOf(int(d.between(2, signsMost)), most)
			for i := range signs {
				p, _ := realParts(atoms, hklOfSigned(signs[i]))
				signs[i].Sign = p / 7
				if signs[i].Sign != signAtHalves(hklOfSigned(signs[i]), halves) {
					t.Fatal(atoms, signs[i])
				}
			}
			if one, minusOne := checkTriplet(t, signs); minusOne != 0 || one != int64(len(triplesByRule(signs))) {
				t.Error(signs, one, minusOne)
			}
			for range 20 {
				h, atLeast := d.hkl(most+1), d.between(1, 4)
				_, pairs := sumToByRule(signs, h)
				want := int64(0)
				if pairs >= atLeast {
					want = signAtHalves(h, halves)
				}
				if got := impl.Deduce(signs, h, atLeast); got != want {
					t.Error(signs, h, atLeast, got, want)
				}
				switch want {
				case 0:
					unknown++
				case 1:
					told++
				default:
					minus++
				}
			}
		}
	}
	if min(told, minus, unknown) < 500 {
		t.Error("too few of a kind:", told, minus, unknown)
	}
}

// P19: signs that come from one structure with the triples' products 1 are
// deduced so, whatever else the structure has.
func TestDeduceOfStructures(t *testing.T) {
	var d dice
	told, minus := 0, 0
	for range 1500 {
		atoms := d.signedAtoms(int(d.between(1, 4)), d.between(10, 60), d.between(1, 15))
		signs := []impl.Signed3{}
		for _, s := range d.signsOf(int(d.between(3, 30)), 3) {
			p, q := realParts(atoms, hklOfSigned(s))
			if s.Sign = impl.RealSign(p, q); s.Sign != 0 {
				signs = append(signs, s)
			}
		}
		if one, minusOne := checkTriplet(t, signs); one == 0 || minusOne > 0 {
			continue
		}
		for _, s := range signs {
			_, pairs := sumToByRule(signs, hklOfSigned(s))
			if got := impl.Deduce(signs, hklOfSigned(s), pairs); pairs > 0 && got != s.Sign {
				t.Error(atoms, signs, s, got)
			}
			if got := impl.Deduce(signs, hklOfSigned(s), pairs+1); got != 0 {
				t.Error(atoms, signs, s, got)
			}
			if pairs > 0 && s.Sign == 1 {
				told++
			} else if pairs > 0 {
				minus++
			}
		}
	}
	if min(told, minus) < 500 {
		t.Error("too few of a kind:", told, minus)
	}
}

func checkTape(t *testing.T, tape []impl.Step, inputs int64) bool {
	t.Helper()
	got := impl.TapeOk(tape, inputs)
	if got != isTapeByRule(tape, inputs) {
		t.Error(tape, inputs, got)
	}
	return got
}

func TestTapeOkByHand(t *testing.T) {
	for _, c := range []struct {
		why    string
		tape   []impl.Step
		inputs int64
		want   bool
	}{
		{"no node", nil, 0, true},
		{"no node, with inputs", []impl.Step{}, inputsMost, true},
		{"no node, too many inputs", nil, inputsMost + 1, false},
		{"no node, inputs below 0", nil, -1, false},
		{"an input", []impl.Step{nodeIn(0)}, 1, true},
		{"an input of none", []impl.Step{nodeIn(0)}, 0, false},
		{"the last input", []impl.Step{nodeIn(inputsMost - 1)}, inputsMost, true},
		{"one behind the last", []impl.Step{nodeIn(inputsMost)}, inputsMost, false},
		{"a constant", []impl.Step{nodeConst(7)}, 0, true},
		{"constants of any size", []impl.Step{nodeConst(math.MinInt64), nodeConst(math.MaxInt64), nodeConst(tapePrime), nodeConst(-1)}, 0, true},
		{"a sum of nothing", []impl.Step{nodeSum(0, 0)}, 3, false},
		{"a product of itself", []impl.Step{nodeConst(1), nodeProduct(1, 0)}, 3, false},
		{"minus itself", []impl.Step{nodeConst(1), nodeMinus(1)}, 3, false},
		{"the node ahead", []impl.Step{nodeConst(1), nodeMinus(0), nodeSum(1, 0), nodeProduct(2, 2)}, 0, true},
		{"a node behind", []impl.Step{nodeConst(1), nodeSum(0, 2), nodeConst(1)}, 0, false},
		{"the given one", handTape(), 2, true},
		{"the given one, with more inputs", handTape(), inputsMost, true},
		{"the given one, with one input", handTape(), 1, false},
		{"what no Op uses", []impl.Step{{Op: kindConst, A: 1, B: 1}}, 0, false},
		{"no Op", []impl.Step{{}}, 0, false},
		{"one Op too many", []impl.Step{{Op: 6}}, 0, false},
	} {
		if got := checkTape(t, c.tape, c.inputs); got != c.want {
			t.Error(c.why, got)
		}
	}
}

func TestTapeEdges(t *testing.T) {
	for _, inputs := range []int64{math.MinInt64, -1, 0, 1, 2, inputsMost - 1, inputsMost, inputsMost + 1, 1 << 32, 1<<32 + 2, math.MaxInt64} {
		if got := impl.TapeOk(handTape(), inputs); got != (inputs >= 2 && inputs <= inputsMost) {
			t.Error(inputs, got)
		}
		for op := int64(-1); op <= 7; op++ {
			for ahead := range int64(4) {
				for _, a := range []int64{math.MinInt64, -1, 0, ahead - 1, ahead, ahead + 1, inputs - 1, inputs, math.MaxInt64} {
					for _, b := range []int64{math.MinInt64, -1, 0, 1, ahead - 1, ahead, math.MaxInt64} {
						tape := append(slices.Repeat([]impl.Step{nodeConst(3)}, int(ahead)), impl.Step{Op: op, A: a, B: b})
						checkTape(t, tape, inputs)
						checkTape(t, append(tape, nodeConst(1)), inputs)
					}
				}
			}
		}
	}
}

func TestTapeTakesMaxTapeAndNoMore(t *testing.T) {
	var d dice
	for _, count := range []int{tapeMost - 1, tapeMost, tapeMost + 1, 5000} {
		right := count <= tapeMost
		for _, tape := range [][]impl.Step{towerTape(count - 1), d.tape(3, count, 4, 9), slices.Repeat([]impl.Step{nodeIn(2)}, count)} {
			if got := checkTape(t, tape, 3); got != right {
				t.Error(count, got)
			}
			if _, ok := impl.Value(tape, []int64{1, 2, 3}); ok != right {
				t.Error(count, ok)
			}
		}
	}
}

func TestTapeOfInputs(t *testing.T) {
	for count := range inputsMost + 4 {
		xs := make([]int64, count)
		for i := range xs {
			xs[i] = int64(i) + 1
		}
		for _, tape := range [][]impl.Step{{nodeConst(5)}, {nodeConst(5), nodeSum(0, 0)}} {
			right := count <= inputsMost
			value, ok := impl.Value(tape, xs)
			slopes, sloped := impl.SlopesBack(tape, xs)
			if ok != right || sloped != right || right && (value == 0 || len(slopes) != count) || !right && (value != 0 || len(slopes) != 0) {
				t.Error(count, value, ok, slopes, sloped)
			}
			if got := impl.Descent(tape, xs, 2); right && !slices.Equal(got, xs) || !right && len(got) != 0 {
				t.Error(count, got)
			}
		}
	}
}

func checkNoValue(t *testing.T, tape []impl.Step, xs []int64) {
	t.Helper()
	if value, ok := impl.Value(tape, xs); value != 0 || ok {
		t.Error(tape, xs, value, ok)
	}
	for _, along := range []int64{-1, 0, 1} {
		if got, ok := impl.SlopeForward(tape, xs, along); got != 0 || ok {
			t.Error(tape, xs, along, got, ok)
		}
	}
	if got, ok := impl.SlopesBack(tape, xs); len(got) != 0 || ok {
		t.Error(tape, xs, got, ok)
	}
	for _, rounds := range []int64{0, 1, roundsMost} {
		if got := impl.Descent(tape, xs, rounds); len(got) != 0 {
			t.Error(tape, xs, rounds, got)
		}
	}
}

func TestTapesRefused(t *testing.T) {
	for _, tape := range wrongTapes() {
		if impl.TapeOk(tape, 2) || isTapeByRule(tape, 2) {
			t.Error(tape)
		}
		checkNoValue(t, tape, []int64{3, -5})
	}
	for _, xs := range [][]int64{nil, {}, {3}, make([]int64, inputsMost+1), make([]int64, 5000)} {
		checkNoValue(t, handTape(), xs)
		checkNoValue(t, nil, xs)
		checkNoValue(t, []impl.Step{}, xs)
	}
	checkNoValue(t, nil, []int64{3, -5})
	checkNoValue(t, handTape()[:0], []int64{3, -5})
}

func TestValueByHand(t *testing.T) {
	for _, c := range []struct {
		why  string
		tape []impl.Step
		xs   []int64
		want int64
	}{
		{"the given one", handTape(), []int64{3, -5}, 12283},
		{"an input alone", []impl.Step{nodeIn(0)}, []int64{7}, 7},
		{"an input below 0", []impl.Step{nodeIn(0)}, []int64{-1}, 12288},
		{"an input at the prime", []impl.Step{nodeIn(0)}, []int64{tapePrime}, 0},
		{"an input one above", []impl.Step{nodeIn(0)}, []int64{tapePrime + 1}, 1},
		{"an input one below", []impl.Step{nodeIn(0)}, []int64{tapePrime - 1}, 12288},
		{"an input at minus the prime", []impl.Step{nodeIn(0)}, []int64{-tapePrime}, 0},
		{"the greatest input", []impl.Step{nodeIn(0)}, []int64{math.MaxInt64}, 2831},
		{"the least input", []impl.Step{nodeIn(0)}, []int64{math.MinInt64}, 9457},
		{"a constant alone", []impl.Step{nodeConst(9)}, nil, 9},
		{"a constant below 0", []impl.Step{nodeConst(-9)}, nil, 12280},
		{"a constant above the prime", []impl.Step{nodeConst(3*tapePrime + 4)}, nil, 4},
		{"the greatest constant", []impl.Step{nodeConst(math.MaxInt64)}, []int64{1, 2}, 2831},
		{"the least constant", []impl.Step{nodeConst(math.MinInt64)}, nil, 9457},
		{"minus the least constant", []impl.Step{nodeConst(math.MinInt64), nodeMinus(0)}, nil, 2832},
		{"a sum", []impl.Step{nodeIn(0), nodeIn(1), nodeSum(0, 1)}, []int64{12288, 12288}, 12287},
		{"a sum of one twice", []impl.Step{nodeIn(0), nodeSum(0, 0)}, []int64{8}, 16},
		{"a product", []impl.Step{nodeIn(0), nodeIn(1), nodeProduct(0, 1)}, []int64{12288, 12287}, 2},
		{"a square", []impl.Step{nodeIn(0), nodeProduct(0, 0)}, []int64{111}, 32},
		{"minus", []impl.Step{nodeIn(0), nodeMinus(0)}, []int64{1}, 12288},
		{"minus 0", []impl.Step{nodeIn(0), nodeMinus(0)}, []int64{0}, 0},
		{"minus twice", []impl.Step{nodeIn(0), nodeMinus(0), nodeMinus(1)}, []int64{5}, 5},
		{"the last one is an input", append(handTape(), nodeIn(1)), []int64{3, 4}, 4},
		{"the last one is a constant", append(handTape(), nodeConst(6)), []int64{3, 4}, 6},
		{"the one input that is named", []impl.Step{nodeIn(2)}, []int64{5, 6, 7, 8}, 7},
		{"twice the node, not twice the input", []impl.Step{nodeConst(4), nodeIn(0), nodeSum(0, 0)}, []int64{9}, 8},
		{"one input by two nodes", []impl.Step{nodeIn(0), nodeIn(0), nodeProduct(0, 1)}, []int64{12}, 144},
	} {
		if got, ok := impl.Value(c.tape, c.xs); got != c.want || !ok {
			t.Error(c.why, got, ok)
		}
		if got, ok := valueByRule(c.tape, c.xs); got != c.want || !ok {
			t.Error(c.why, "by the rule", got, ok)
		}
	}
}

func checkValue(t *testing.T, tape []impl.Step, xs []int64) bool {
	t.Helper()
	got, ok := impl.Value(tape, xs)
	if want, wantOk := valueByRule(tape, xs); got != want || ok != wantOk {
		t.Error(tape, xs, got, ok, want, wantOk)
	}
	return ok
}

// oneKind: inputs and constants, and then one Op alone behind them.
func (d *dice) oneKind(kind int64, inputs int64, count int) []impl.Step {
	out := []impl.Step{}
	for i := range inputs {
		out = append(out, nodeIn(i), nodeConst(d.wildNumber()))
	}
	for range count {
		last := int64(len(out) - 1)
		switch kind {
		case kindIn:
			out = append(out, nodeIn(d.between(0, inputs-1)))
		case kindMinus:
			out = append(out, nodeMinus(d.between(0, last)))
		case kindConst:
			out = append(out, nodeConst(d.wildNumber()))
		default:
			out = append(out, impl.Step{Op: kind, A: d.between(0, last), B: d.between(0, last)})
		}
	}
	return out
}

func TestValueByRule(t *testing.T) {
	var d dice
	twice, idle, lastIn, lastConst := 0, 0, 0, 0
	for range 1500 {
		inputs := d.between(0, inputsMost)
		tape := d.tape(inputs, int(d.between(1, 40)), 1<<40, math.MaxInt64/2)
		if d.between(0, 9) == 0 {
			tape = d.tape(inputs, tapeMost, 1<<40, math.MaxInt64/2)
		}
		if !checkValue(t, tape, d.xs(int(inputs))) {
			t.Error(tape)
		}
		uses := usesOf(tape)
		if slices.Max(uses) > 1 {
			twice++
		}
		if slices.Contains(uses[:len(uses)-1], 0) {
			idle++
		}
		switch tape[len(tape)-1].Op {
		case kindIn:
			lastIn++
		case kindConst:
			lastConst++
		}
	}
	if min(twice, idle, lastIn, lastConst) < 100 {
		t.Error("too few of a kind:", twice, idle, lastIn, lastConst)
	}
	for kind := int64(kindIn); kind <= kindConst; kind++ {
		for range 60 {
			inputs := d.between(1, inputsMost)
			checkValue(t, d.oneKind(kind, inputs, int(d.between(1, 60))), d.xs(int(inputs)))
		}
	}
}

// Inputs and constants that are alike modulo Prime tell the same.
func TestValueHangsOnResidues(t *testing.T) {
	var d dice
	for range 300 {
		tape, xs := d.tape(4, 20, 1<<40, 1000), d.numbers(4, 1000)
		value, _ := impl.Value(tape, xs)
		slopes, _ := impl.SlopesBack(tape, xs)
		for i := range xs {
			xs[i] += tapePrime * d.between(-5, 5)
		}
		for i := range tape {
			if tape[i].Op == kindConst {
				tape[i].A += tapePrime * d.between(-1<<40, 1<<40)
			}
		}
		if got, ok := impl.Value(tape, xs); got != value || !ok {
			t.Error(tape, xs, got, value)
		}
		if got, ok := impl.SlopesBack(tape, xs); !slices.Equal(got, slopes) || !ok {
			t.Error(tape, xs, got, slopes)
		}
	}
}

func TestSlopesByHand(t *testing.T) {
	for _, c := range []struct {
		why  string
		tape []impl.Step
		xs   []int64
		want []int64
	}{
		{"the given one", handTape(), []int64{3, -5}, []int64{1, 3}},
		{"no inputs", []impl.Step{nodeConst(4), nodeProduct(0, 0)}, nil, nil},
		{"an input alone", []impl.Step{nodeIn(0)}, []int64{7}, []int64{1}},
		{"one of three", []impl.Step{nodeIn(1)}, []int64{7, 8, 9}, []int64{0, 1, 0}},
		{"a constant alone", []impl.Step{nodeConst(3)}, []int64{7, 8}, []int64{0, 0}},
		{"a constant behind", append(handTape(), nodeConst(3)), []int64{7, 8}, []int64{0, 0}},
		{"an input behind", append(handTape(), nodeIn(1)), []int64{7, 8}, []int64{0, 1}},
		{"a sum", []impl.Step{nodeIn(0), nodeIn(1), nodeSum(0, 1)}, []int64{7, 8}, []int64{1, 1}},
		{"a sum of one twice", []impl.Step{nodeIn(0), nodeSum(0, 0)}, []int64{7}, []int64{2}},
		{"a sum with a constant", []impl.Step{nodeIn(0), nodeConst(5), nodeSum(0, 1)}, []int64{7}, []int64{1}},
		{"a product", []impl.Step{nodeIn(0), nodeIn(1), nodeProduct(0, 1)}, []int64{7, 8}, []int64{8, 7}},
		{"a product below 0", []impl.Step{nodeIn(0), nodeIn(1), nodeProduct(0, 1)}, []int64{-7, 0}, []int64{0, 12282}},
		{"a product with a constant", []impl.Step{nodeIn(0), nodeConst(-5), nodeProduct(0, 1)}, []int64{7}, []int64{12284}},
		{"a square", []impl.Step{nodeIn(0), nodeProduct(0, 0)}, []int64{7}, []int64{14}},
		{"a square by two nodes", []impl.Step{nodeIn(0), nodeIn(0), nodeProduct(0, 1)}, []int64{7}, []int64{14}},
		{"a cube", []impl.Step{nodeIn(0), nodeProduct(0, 0), nodeProduct(1, 0)}, []int64{7}, []int64{147}},
		{"minus", []impl.Step{nodeIn(0), nodeMinus(0)}, []int64{7}, []int64{12288}},
		{"minus twice", []impl.Step{nodeIn(0), nodeMinus(0), nodeMinus(1)}, []int64{7}, []int64{1}},
		{"less itself", []impl.Step{nodeIn(0), nodeMinus(0), nodeSum(0, 1)}, []int64{7}, []int64{0}},
		{"a node that nothing uses", []impl.Step{nodeIn(0), nodeProduct(0, 0), nodeIn(1), nodeSum(0, 2)}, []int64{7, 8}, []int64{1, 1}},
		{"to the power 16", towerTape(4), []int64{1}, []int64{16}},
		{"to the power 2 to the 20", towerTape(20), []int64{1}, []int64{(1 << 20) % tapePrime}},
		{"inputs are not nodes", []impl.Step{nodeConst(2), nodeIn(1), nodeProduct(0, 1)}, []int64{5, 6}, []int64{0, 2}},
	} {
		if got, ok := impl.SlopesBack(c.tape, c.xs); !slices.Equal(got, c.want) || !ok {
			t.Error(c.why, got, ok)
		}
		for along, want := range c.want {
			if got, ok := impl.SlopeForward(c.tape, c.xs, int64(along)); got != want || !ok {
				t.Error(c.why, along, got, ok)
			}
			if got := slopeByPaths(c.tape, c.xs, int64(along)); got != want {
				t.Error(c.why, along, "by paths", got)
			}
			if degreeAlong(c.tape, int64(along)) > 100 {
				continue
			}
			if got := slopeByDifferences(c.tape, c.xs, int64(along)); got != want {
				t.Error(c.why, along, "by differences", got)
			}
		}
	}
}

// P19: slopes forward and back agree; and both with what is told of them.
func checkSlopes(t *testing.T, tape []impl.Step, xs []int64, told func([]impl.Step, []int64, int64) int64) int {
	t.Helper()
	back, ok := impl.SlopesBack(tape, xs)
	if !ok || len(back) != len(xs) {
		t.Error(tape, xs, back, ok)
		return 0
	}
	some := 0
	for along := range int64(len(xs)) {
		forward, ok := impl.SlopeForward(tape, xs, along)
		if want := told(tape, xs, along); !ok || forward != back[along] || forward != want {
			t.Error(tape, xs, along, forward, ok, back, want)
		}
		if forward != 0 {
			some++
		}
	}
	return some
}

func TestSlopesByDifferences(t *testing.T) {
	var d dice
	some := 0
	for range 600 {
		inputs := d.between(1, 6)
		tape := d.tape(inputs, int(d.between(1, 30)), d.between(1, 9), d.between(0, 20000))
		some += checkSlopes(t, tape, d.xs(int(inputs)), slopeByDifferences)
	}
	for kind := int64(kindIn); kind <= kindConst; kind++ {
		for range 30 {
			inputs := d.between(1, 4)
			tape := d.oneKind(kind, inputs, int(d.between(1, 5)))
			some += checkSlopes(t, tape, d.xs(int(inputs)), slopeByDifferences)
		}
	}
	if some < 600 {
		t.Error("too few slopes that are not 0:", some)
	}
}

func TestSlopesOfLongTapes(t *testing.T) {
	var d dice
	some := 0
	for range 300 {
		inputs := d.between(0, inputsMost)
		tape := d.tape(inputs, int(d.between(tapeMost-20, tapeMost)), 1<<40, math.MaxInt64/2)
		some += checkSlopes(t, tape, d.xs(int(inputs)), slopeByPaths)
	}
	for kind := int64(kindIn); kind <= kindConst; kind++ {
		for range 20 {
			inputs := d.between(1, inputsMost)
			checkSlopes(t, d.oneKind(kind, inputs, tapeMost-2*int(inputs)), d.xs(int(inputs)), slopeByPaths)
		}
	}
	if some < 500 {
		t.Error("too few slopes that are not 0:", some)
	}
	// x to the power n has the slope n times x to the power n - 1
	prime := big.NewInt(tapePrime)
	for _, squares := range []int{0, 1, 2, 13, 64, tapeMost - 1} {
		for _, x := range []int64{0, 1, -1, 2, 11, tapePrime, math.MinInt64} {
			n := new(big.Int).Lsh(big.NewInt(1), uint(squares))
			want := new(big.Int).Exp(new(big.Int).Mod(big.NewInt(x), prime), new(big.Int).Sub(n, big.NewInt(1)), prime)
			want.Mod(want.Mul(want, n), prime)
			if got, ok := impl.SlopeForward(towerTape(squares), []int64{x}, 0); got != want.Int64() || !ok {
				t.Error(squares, x, got, want)
			}
			if got, ok := impl.SlopesBack(towerTape(squares), []int64{x}); !slices.Equal(got, []int64{want.Int64()}) || !ok {
				t.Error(squares, x, got, want)
			}
		}
	}
}

// A sum's slopes are both together, a product's those with the other factor:
// held against slopes of the tapes alone.
func TestSlopesOfJoinedTapes(t *testing.T) {
	var d dice
	for range 200 {
		one, xs := d.tape(5, 15, 8, 300), d.numbers(5, 300)
		node := d.between(0, 13)
		a, _ := impl.SlopesBack(one[:node+1], xs)
		b, _ := impl.SlopesBack(one, xs)
		u, _ := impl.Value(one[:node+1], xs)
		v, _ := impl.Value(one, xs)
		sum, _ := impl.SlopesBack(append(slices.Clone(one), nodeSum(node, 14)), xs)
		product, _ := impl.SlopesBack(append(slices.Clone(one), nodeProduct(14, node)), xs)
		minus, _ := impl.SlopesBack(append(slices.Clone(one), nodeMinus(node)), xs)
		for i := range xs {
			if sum[i] != (a[i]+b[i])%tapePrime || product[i] != (a[i]*v+b[i]*u)%tapePrime || (minus[i]+a[i])%tapePrime != 0 {
				t.Error(one, node, xs, i, sum[i], product[i], minus[i])
			}
		}
	}
}

func TestSlopeForwardAlong(t *testing.T) {
	for _, count := range []int{1, 2, inputsMost} {
		tape, xs := []impl.Step{nodeConst(0)}, make([]int64, count)
		for i := range int64(count) {
			last := int64(len(tape) - 1)
			tape = append(tape, nodeIn(i), nodeConst(i+5), nodeProduct(last+1, last+2), nodeSum(last, last+3))
		}
		for along := range int64(count) {
			if got, ok := impl.SlopeForward(tape, xs, along); got != along+5 || !ok {
				t.Error(count, along, got, ok)
			}
		}
		for _, along := range wrongNumbers(int64(count)) {
			if got, ok := impl.SlopeForward(tape, xs, along); got != 0 || ok {
				t.Error(count, along, got, ok)
			}
		}
	}
	// where there is no input there is none to go along
	for _, along := range []int64{-1, 0, 1, math.MaxInt64, math.MinInt64} {
		if got, ok := impl.SlopeForward([]impl.Step{nodeConst(5)}, nil, along); got != 0 || ok {
			t.Error(along, got, ok)
		}
	}
	if got, ok := impl.SlopesBack([]impl.Step{nodeConst(5)}, nil); len(got) != 0 || !ok {
		t.Error(got, ok)
	}
}

func TestDescentByHand(t *testing.T) {
	x := []impl.Step{nodeIn(0)}
	square := []impl.Step{nodeIn(0), nodeProduct(0, 0)}
	hill := append(slices.Clone(square), nodeMinus(1))
	for _, c := range []struct {
		why    string
		tape   []impl.Step
		xs     []int64
		rounds int64
		want   []int64
	}{
		{"the given one", handTape(), []int64{3, -5}, 1, []int64{3, -6}},
		{"a square", square, []int64{1}, 3, []int64{0}},
		{"no rounds", square, []int64{5}, 0, []int64{5}},
		{"one round", square, []int64{5}, 1, []int64{4}},
		{"from below", square, []int64{-5}, 2, []int64{-3}},
		{"at the lowest", square, []int64{0}, roundsMost, []int64{0}},
		{"past the lowest", square, []int64{-5}, roundsMost, []int64{0}},
		{"one less and one more alike", hill, []int64{0}, 1, []int64{-1}},
		{"and on from there", hill, []int64{0}, 5, []int64{-5}},
		{"away from the top", hill, []int64{2}, 5, []int64{7}},
		{"down to the edge", hill, []int64{90}, roundsMost, []int64{100}},
		{"down to the other edge", hill, []int64{-95}, roundsMost, []int64{-100}},
		{"at the edge it stays", hill, []int64{100}, 3, []int64{100}},
		{"at the other edge it stays", hill, []int64{-100}, 3, []int64{-100}},
		{"from the edge inward", square, []int64{100}, 3, []int64{97}},
		{"from the other edge inward", square, []int64{-100}, 3, []int64{-97}},
		{"an input", x, []int64{0}, 3, []int64{-3}},
		{"an input to the edge", x, []int64{-99}, 3, []int64{-100}},
		{"minus an input", []impl.Step{nodeIn(0), nodeMinus(0)}, []int64{98}, 3, []int64{100}},
		{"a constant", []impl.Step{nodeConst(5)}, []int64{7, -7}, roundsMost, []int64{7, -7}},
		{"no inputs", []impl.Step{nodeConst(5)}, nil, 3, nil},
		{"an input that nothing names", []impl.Step{nodeIn(1)}, []int64{4, 4}, 2, []int64{4, 2}},
		{"the last node alone", append(slices.Clone(square), nodeIn(1)), []int64{4, 4}, 2, []int64{4, 2}},
		{"a bowl", bowlTape(3, -4, 50), []int64{0, 0, 45}, 4, []int64{3, -4, 49}},
		{"a bowl to its lowest", bowlTape(3, -4, 50), []int64{0, 0, 45}, roundsMost, []int64{3, -4, 50}},
		{"not modulo the prime", []impl.Step{nodeIn(0), nodeConst(tapePrime), nodeProduct(0, 1)}, []int64{0}, 2, []int64{-2}},
		{"at a saddle it stays", []impl.Step{nodeIn(0), nodeIn(1), nodeProduct(0, 1)}, []int64{0, 0}, 2, []int64{0, 0}},
		{"input by input", []impl.Step{nodeIn(0), nodeIn(1), nodeProduct(0, 1), nodeSum(0, 2)}, []int64{0, 0}, 2, []int64{-2, 2}},
		{"the one with the lower value", []impl.Step{nodeIn(0), nodeProduct(0, 0), nodeProduct(1, 0), nodeMinus(2), nodeMinus(1), nodeSum(3, 4)}, []int64{0}, 1, []int64{1}},
		{"a dent on either side, the lower one", []impl.Step{nodeIn(0), nodeProduct(0, 0), nodeProduct(1, 0), nodeMinus(1), nodeSum(2, 3)}, []int64{0}, 1, []int64{-1}},
	} {
		if got := impl.Descent(c.tape, c.xs, c.rounds); !slices.Equal(got, c.want) {
			t.Error(c.why, got)
		}
		if got := descentByRule(c.tape, c.xs, c.rounds); len(got) != int(c.rounds)+1 || !slices.Equal(got[c.rounds], c.want) {
			t.Error(c.why, "by the rule", got)
		}
	}
}

// P19: Descent's value never rises; and it goes as its rule says, round by
// round.
func checkDescent(t *testing.T, tape []impl.Step, xs []int64, rounds int64) bool {
	t.Helper()
	want := descentByRule(tape, xs, rounds)
	got := impl.Descent(tape, xs, rounds)
	if len(want) == 0 {
		if len(got) != 0 {
			t.Error(tape, xs, rounds, got)
		}
		return false
	}
	if !slices.Equal(got, want[rounds]) {
		t.Error(tape, xs, rounds, got, want)
		return true
	}
	before, _ := depthByRule(tape, xs)
	if after, ok := depthByRule(tape, got); !ok || after > before || after == before && !slices.Equal(got, xs) {
		t.Error(tape, xs, rounds, got, before, after)
	}
	return true
}

func TestDescentByRule(t *testing.T) {
	var d dice
	refused, moved, still := 0, 0, 0
	for range 2500 {
		inputs := d.between(0, 5)
		tape := d.tape(inputs, int(d.between(1, 16)), d.between(1, 9), []int64{1, 9, 1000, 20000}[d.between(0, 3)])
		xs := d.numbers(int(inputs), []int64{2, 20, xMost}[d.between(0, 2)])
		for i := range xs {
			if d.between(0, 7) == 0 {
				xs[i] = xMost * (2*d.between(0, 1) - 1)
			}
		}
		rounds := d.between(0, 6)
		switch {
		case !checkDescent(t, tape, xs, rounds):
			refused++
		case slices.Equal(impl.Descent(tape, xs, rounds), xs):
			still++
		default:
			moved++
		}
	}
	if min(refused, moved, still) < 100 {
		t.Error("too few of a kind:", refused, moved, still)
	}
}

// Each round goes on from where the one ahead has come to, and none is higher.
func TestDescentRoundByRound(t *testing.T) {
	var d dice
	falls, ends := 0, 0
	for range 120 {
		inputs := d.between(1, 4)
		tape := bowlTape(d.numbers(int(inputs), 12)...)
		if d.between(0, 1) == 0 {
			tape = d.tape(inputs, 12, 3, 9)
		}
		xs := d.numbers(int(inputs), 15)
		if !checkDescent(t, tape, xs, roundsMost) {
			continue
		}
		before, _ := depthByRule(tape, xs)
		at := xs
		for rounds := int64(1); rounds <= roundsMost; rounds++ {
			next := impl.Descent(tape, xs, rounds)
			if step := impl.Descent(tape, at, 1); !slices.Equal(step, next) {
				t.Error(tape, xs, rounds, next, step)
			}
			value, ok := depthByRule(tape, next)
			if !ok || value > before || (value == before) != slices.Equal(at, next) {
				t.Error(tape, xs, rounds, next, value, before)
			}
			if value < before {
				falls++
			} else {
				ends++
			}
			before, at = value, next
		}
	}
	if min(falls, ends) < 200 {
		t.Error("too few of a kind:", falls, ends)
	}
}

func TestDescentTakesMaxXAndNoMore(t *testing.T) {
	for _, x := range []int64{math.MinInt64, -1 << 32, -xMost - 1, -xMost, -xMost + 1, 0, xMost - 1, xMost, xMost + 1, 1 << 32, 1<<32 + 1, math.MaxInt64} {
		right := x >= -xMost && x <= xMost
		for place := range 3 {
			xs := []int64{1, 2, 3}
			xs[place] = x
			for _, tape := range [][]impl.Step{{nodeConst(5)}, {nodeIn(0)}, bowlTape(0, 0, 0)} {
				for _, rounds := range []int64{0, 1, 5} {
					if got := checkDescent(t, tape, xs, rounds); got != right {
						t.Error(tape, xs, rounds, got)
					}
				}
			}
		}
	}
}

func TestDescentTakesMaxRoundsAndNoMore(t *testing.T) {
	for rounds := int64(-3); rounds <= roundsMost+3; rounds++ {
		got := impl.Descent([]impl.Step{nodeIn(0)}, []int64{50}, rounds)
		if right := rounds >= 0 && rounds <= roundsMost; right && !slices.Equal(got, []int64{50 - rounds}) || !right && len(got) != 0 {
			t.Error(rounds, got)
		}
	}
	for _, rounds := range []int64{1 << 32, 1<<32 + 1, -1 << 32, math.MaxInt64, math.MinInt64, math.MinInt64 + 1} {
		if got := impl.Descent([]impl.Step{nodeIn(0)}, []int64{50}, rounds); len(got) != 0 {
			t.Error(rounds, got)
		}
	}
}

// Values at the depth's edges and one past them, as constants, sums, products
// and turned signs, whether the last node uses them or not.
func TestDescentDepths(t *testing.T) {
	for _, sign := range []int64{1, -1} {
		for _, by := range []int64{-1, 0, 1} {
			depth := sign * (depthMost + by)
			factor := []impl.Step{nodeConst(sign * 1000000), nodeConst(1000000), nodeProduct(0, 1), nodeConst(sign * by), nodeSum(2, 3)}
			for _, tape := range [][]impl.Step{
				{nodeConst(depth)},
				{nodeConst(depth - sign*5), nodeConst(sign * 5), nodeSum(0, 1)},
				{nodeConst(-sign * (depthMost + by)), nodeMinus(0)},
				factor,
			} {
				for _, end := range [][]impl.Step{tape, append(slices.Clone(tape), nodeConst(1)), append(slices.Clone(tape), nodeIn(0))} {
					for _, xs := range [][]int64{{7}, {7, 7}} {
						for _, rounds := range []int64{0, 1, 3} {
							if got := checkDescent(t, end, xs, rounds); got != (by <= 0) {
								t.Error(end, xs, rounds, got)
							}
						}
					}
				}
				if got := impl.Descent(tape, nil, 1); len(got) != 0 {
					t.Error(tape, got)
				}
			}
		}
	}
	for _, n := range []int64{math.MinInt64, math.MinInt64 + 1, math.MaxInt64, 1 << 32, -1 << 32, 1 << 62} {
		tape := []impl.Step{nodeConst(n), nodeIn(0)}
		if got := checkDescent(t, tape, []int64{3}, 1); got != (n == 1<<32 || n == -1<<32) {
			t.Error(tape, got)
		}
		if value, ok := impl.Value(tape, []int64{3}); value != 3 || !ok {
			t.Error(tape, value, ok)
		}
	}
}

// A product that 64 bits do not hold may look like a small one.
func TestDescentOfProductsPastAllBits(t *testing.T) {
	for _, factors := range [][2]int64{{1 << 32, 1 << 32}, {-1 << 32, 1 << 32}, {1 << 33, 1 << 31}, {depthMost, depthMost}, {-depthMost, depthMost}, {-depthMost, -depthMost}, {1 << 39, 1 << 25}, {4294967297, 4294967295}, {depthMost, 2}, {2, -depthMost}, {-3, 400000000000}} {
		tape := []impl.Step{nodeConst(factors[0]), nodeConst(factors[1]), nodeProduct(0, 1), nodeIn(0)}
		if checkDescent(t, tape, []int64{3}, 1) {
			t.Error(tape)
		}
	}
	for _, factors := range [][2]int64{{depthMost, 1}, {1, depthMost}, {-1, depthMost}, {depthMost, -1}, {0, depthMost}, {-depthMost, 0}, {1000000, 1000000}, {-1000000, 1000000}, {333333333333, 3}, {0, 0}} {
		tape := []impl.Step{nodeConst(factors[0]), nodeConst(factors[1]), nodeProduct(0, 1), nodeIn(0)}
		if !checkDescent(t, tape, []int64{3}, 1) {
			t.Error(tape)
		}
	}
	if checkDescent(t, towerTape(tapeMost-1), []int64{2}, 0) || !checkDescent(t, towerTape(tapeMost-1), []int64{0}, 0) || !checkDescent(t, towerTape(tapeMost-1), []int64{-1}, 0) {
		t.Error("a tower")
	}
}

// A value that leaves the depth only with inputs that are tried, though they are
// not taken: then there is nothing.
func TestDescentDepthsThatAreTried(t *testing.T) {
	for _, sign := range []int64{1, -1} {
		for _, by := range []int64{-1, 0, 1} {
			// sign x and what is left up to the depth, and a last node of its own
			tape := []impl.Step{nodeIn(0), nodeConst(sign), nodeProduct(0, 1), nodeConst(sign * (depthMost - 51 + by)), nodeSum(2, 3), nodeConst(4)}
			for _, c := range []struct {
				x      int64
				rounds int64
				right  bool
			}{{49, 1, true}, {50, 1, by <= 0}, {51, 0, by <= 0}, {51, 1, by < 0}, {52, 0, by < 0}, {-100, 20, true}} {
				if got := checkDescent(t, tape, []int64{c.x}, c.rounds); got != c.right {
					t.Error(tape, c, got)
				}
			}
		}
	}
	// far off only in a later round, and past what is within MaxX never
	steep := []impl.Step{nodeIn(0), nodeConst(10000000000), nodeProduct(0, 1)}
	for _, x := range []int64{-100, 0, 100} {
		if !checkDescent(t, steep, []int64{x}, roundsMost) {
			t.Error(x)
		}
	}
	steeper := []impl.Step{nodeIn(0), nodeConst(20000000000), nodeProduct(0, 1)}
	for _, c := range []struct {
		x, rounds int64
		right     bool
	}{{-50, 0, true}, {-50, 1, false}, {-49, 1, true}, {-49, 2, false}, {-40, 10, true}, {-40, 11, false}, {50, 0, true}, {50, 1, false}, {-51, 0, false}} {
		if got := checkDescent(t, steeper, []int64{c.x}, c.rounds); got != c.right {
			t.Error(c, got)
		}
	}
	// the first input's tries are seen though the second one would not go on
	two := []impl.Step{nodeIn(0), nodeIn(1), nodeConst(depthMost - 7), nodeSum(0, 2), nodeProduct(1, 1)}
	for _, c := range []struct {
		x     int64
		right bool
	}{{6, true}, {7, false}} {
		if got := checkDescent(t, two, []int64{c.x, 0}, 1); got != c.right {
			t.Error(c, got)
		}
	}
}

func TestSignArgumentsStay(t *testing.T) {
	var d dice
	for _, signs := range [][]impl.Signed3{nil, handSigns(), d.signsOf(30, 3), append(handSigns(), handSigns()[0]), append(handSigns(), wrongSigned()[0])} {
		given, guard := withSpare(signs, impl.Signed3{H: 1, K: 2, Sign: 1}, impl.Signed3{})
		impl.Triplet(given)
		impl.Deduce(given, hkl(2, 1, 0), 1)
		if !guard() {
			t.Error(signs)
		}
	}
	tapes := append([][]impl.Step{nil, handTape(), bowlTape(4, 5), d.tape(2, 30, 3, 9), append(handTape(), nodeConst(math.MaxInt64))}, wrongTapes()[2:9]...)
	for _, tape := range tapes {
		for _, xs := range [][]int64{nil, {3, -5}, {100, -100}, {101, 0}, {math.MinInt64, math.MaxInt64}} {
			steps, guardTape := withSpare(tape, nodeIn(1), impl.Step{Op: 9})
			numbers, guardXs := withSpare(xs, 77, 1000)
			impl.TapeOk(steps, 2)
			impl.Value(steps, numbers)
			impl.SlopeForward(steps, numbers, 1)
			back, _ := impl.SlopesBack(steps, numbers)
			spoilNumbers(back, impl.Descent(steps, numbers, 0), impl.Descent(steps, numbers, 3))
			if !guardTape() || !guardXs() {
				t.Error(tape, xs)
			}
		}
	}
}

// What lies behind a list's length is not of it.
func TestSignLeavesOutWhatLiesBehind(t *testing.T) {
	signs := append(handSigns(), impl.Signed3{})
	if one, minusOne := impl.Triplet(signs[:3]); one != 1 || minusOne != 0 {
		t.Error(one, minusOne)
	}
	if got := impl.Deduce(signs[:4], hkl(2, 1, 0), 1); got != 1 {
		t.Error(got)
	}
	if got := impl.Deduce(signs[:2], hkl(2, 1, 0), 1); got != 0 {
		t.Error(got)
	}
	tape, xs := append(handTape(), impl.Step{}), []int64{3, -5, 7, 1000}
	if !impl.TapeOk(tape[:5], 2) || impl.TapeOk(tape, 2) {
		t.Error(tape)
	}
	if value, ok := impl.Value(tape[:3], xs[:2]); value != tapePrime-15 || !ok {
		t.Error(value, ok)
	}
	if got, ok := impl.SlopeForward(tape[:3], xs[:2], 2); got != 0 || ok {
		t.Error(got, ok)
	}
	if got, ok := impl.SlopesBack(tape[:4], xs[:2]); !slices.Equal(got, []int64{6, 0}) || !ok {
		t.Error(got, ok)
	}
	if got := impl.Descent(tape[:4], xs[:3], 1); !slices.Equal(got, []int64{2, -5, 7}) {
		t.Error(got)
	}
	checkNoValue(t, tape[:5], xs[:1])
}

func TestSignAnswersAreNewMemory(t *testing.T) {
	tape, xs := handTape(), []int64{3, -5}
	checkNewList(t, "SlopesBack", func() []int64 {
		got, _ := impl.SlopesBack(tape, xs)
		return got
	})
	for _, rounds := range []int64{0, 1, roundsMost} {
		checkNewList(t, "Descent", func() []int64 { return impl.Descent(tape, xs, rounds) })
		spoilNumbers(impl.Descent(tape, xs, rounds))
		if !slices.Equal(xs, []int64{3, -5}) {
			t.Fatal("an answer shares memory with the inputs:", rounds)
		}
	}
	back, _ := impl.SlopesBack(tape, xs)
	if !shareNothing([][]int64{back, impl.Descent(tape, xs, 0), impl.Descent(tape, xs, 0), impl.Descent(tape, xs, 2), xs}) {
		t.Error("two lists share memory")
	}
}

// Every call answers the same, one behind the other and all at once.
func TestSignAnswersTheSame(t *testing.T) {
	var all sync.WaitGroup
	for start := range 8 {
		all.Go(func() {
			d := dice(start)
			signs, h := d.signsOf(30, 2), d.hkl(2)
			one, minusOne := tripletByRule(signs)
			tape, xs := d.tape(4, 40, 5, 9), d.numbers(4, 30)
			value, _ := valueByRule(tape, xs)
			bowl, rounds := bowlTape(d.numbers(4, 30)...), d.between(0, 9)
			down := descentByRule(bowl, xs, rounds)[rounds]
			for range 10 {
				impl.Value(append(slices.Clone(tape), impl.Step{}), xs)
				if a, b := impl.Triplet(signs); a != one || b != minusOne {
					t.Error(start, a, b)
				}
				if got := impl.Deduce(signs, h, 1); got != deduceByRule(signs, h, 1) {
					t.Error(start, got)
				}
				if got, ok := impl.Value(tape, xs); got != value || !ok {
					t.Error(start, got, ok)
				}
				checkSlopes(t, tape, xs, slopeByPaths)
				if got := impl.Descent(bowl, xs, rounds); !slices.Equal(got, down) {
					t.Error(start, got)
				}
				checkCertain(t, int64(start)*9, 8, 2, 20, int64(start))
			}
		})
	}
	all.Wait()
}

func (d *dice) wildSigns() []impl.Signed3 {
	out := d.signsOf(int(d.between(0, 12)), []int64{1, 2, hklMost}[d.between(0, 2)])
	if len(out) == 0 {
		return out
	}
	s := &out[d.between(0, int64(len(out)-1))]
	switch d.between(0, 12) {
	case 0:
		s.H = d.wildNumber()
	case 1:
		s.K = d.wildNumber()
	case 2:
		s.L = d.wildNumber()
	case 3, 4:
		s.Sign = d.wildNumber()
	case 5:
		*s = out[0]
	}
	return out
}

func (d *dice) wildTape(inputs int64) []impl.Step {
	out := d.tape(inputs, int(d.between(0, 12)), []int64{1, 4, 1 << 40}[d.between(0, 2)], []int64{1, 50, depthMost, 1 << 62}[d.between(0, 3)])
	if len(out) == 0 {
		return out
	}
	s := &out[d.between(0, int64(len(out)-1))]
	switch d.between(0, 9) {
	case 0:
		s.Op = d.wildNumber()
	case 1:
		s.A = d.wildNumber()
	case 2:
		s.B = d.wildNumber()
	case 3:
		s.Op = d.between(0, 6)
	case 4:
		s.A, s.B = d.between(-1, 12), d.between(-1, 12)
	}
	return out
}

func TestSignAnswersAtEveryArgument(t *testing.T) {
	var d dice
	kinds := [10]int{}
	tell := func(kind int, right bool) {
		if right {
			kind++
		}
		kinds[kind]++
	}
	for range 8000 {
		tell(0, checkCertain(t, d.wildNumber(), d.wildUpTo(realMost), d.wildUpTo(realMost), d.wildUpTo(realMost), d.wildUpTo(realMost)))
		signs := d.wildSigns()
		one, minusOne := checkTriplet(t, signs)
		tell(2, one+minusOne > 0)
		h := hkl(d.wildUpTo(2), d.wildUpTo(2), d.wildUpTo(2))
		if count := int64(len(signs)); count > 1 && d.between(0, 2) > 0 {
			h = sumOfHkls(hklOfSigned(signs[d.between(0, count-1)]), hklOfSigned(signs[d.between(0, count-1)]))
		}
		tell(4, checkDeduce(t, signs, h, d.wildUpTo(2)) != 0)
		inputs := d.between(0, 4)
		tape, xs := d.wildTape(inputs), d.xs(int(inputs))
		checkTape(t, tape, d.wildUpTo(4))
		right := checkValue(t, tape, xs)
		tell(6, right)
		along := d.wildUpTo(4)
		slope, ok := impl.SlopeForward(tape, xs, along)
		back, backOk := impl.SlopesBack(tape, xs)
		if ok != (right && along >= 0 && along < inputs) || backOk != right || ok && slope != back[along] || !ok && slope != 0 || !right && len(back) != 0 {
			t.Fatal(tape, xs, along, slope, ok, back, backOk)
		}
		for i := range xs {
			if d.between(0, 9) > 0 {
				xs[i] %= xMost + 1
			}
		}
		tell(8, checkDescent(t, tape, xs, d.wildUpTo(5)))
	}
	if slices.Min(kinds[:]) < 200 {
		t.Error("too few of a kind:", kinds)
	}
}
