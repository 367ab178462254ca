package tests

import (
	"math"
	"slices"
	"strings"
	"testing"

	"loop.example/g00055/impl"
)

// mustOp reads a text that is known to be right.
func mustOp(t *testing.T, s string) impl.Op {
	t.Helper()
	o, at := impl.OpRead(s)
	if at != -1 || !rightByRule(o) {
		t.Fatal(s, o, at)
	}
	return o
}

// wrongOps: each is wrong in one thing alone.
func wrongOps() []impl.Op {
	nought := []int64{0, 0, 0}
	list := []impl.Op{
		{}, {M: unit()}, {T: nought}, {M: nought, T: unit()},
		{M: unit()[:8], T: nought}, {M: append(unit(), 0), T: nought},
		{M: unit(), T: nought[:2]}, {M: unit(), T: make([]int64, 4)},
		{M: make([]int64, 9), T: nought},
		{M: []int64{1, 0, 0, 0, 1, 0, 0, 0, 0}, T: nought},
		{M: []int64{1, 1, 0, 1, 1, 0, 0, 0, 1}, T: nought},
		{M: []int64{1, 1, 0, -1, 1, 0, 0, 0, 1}, T: nought},
		{M: []int64{1, 1, 0, 1, -1, 0, 0, 0, 1}, T: nought},
		{M: []int64{1, 1, 0, 0, 1, 1, 1, -1, 1}, T: nought},
		{M: []int64{1, 1, 1, 1, -1, 1, 1, 1, -1}, T: nought},
		{M: []int64{-1, 1, 1, 1, -1, 1, 1, 1, -1}, T: nought},
	}
	for i := range 9 {
		for _, n := range []int64{2, -2, 3, 1 << 32, math.MaxInt64, math.MinInt64} {
			m := []int64{1, 0, 0, 0, 1, 0, 0, 0, 1}
			m[i] = n
			list = append(list, impl.Op{M: m, T: nought})
		}
	}
	for i := range 3 {
		for _, n := range []int64{24, -1, 25, -24, 48, math.MaxInt64, math.MinInt64} {
			shift := []int64{0, 23, 1}
			shift[i] = n
			list = append(list, impl.Op{M: unit(), T: shift})
		}
	}
	return list
}

// rightOps: with each M that there is.
func rightOps() []impl.Op {
	var d dice
	list := []impl.Op{}
	for _, m := range turns() {
		list = append(list, impl.Op{M: m, T: d.shifts()})
	}
	return list
}

func TestOpOkOfEveryTurn(t *testing.T) {
	for code := range 19683 {
		m := make([]int64, 9)
		for i := range m {
			m[i] = int64(code%3) - 1
			code /= 3
		}
		o := impl.Op{M: m, T: []int64{0, 12, 23}}
		if got := impl.OpOk(o); got != rightByRule(o) {
			t.Fatal(o, got)
		}
	}
}

func TestOpOkEdges(t *testing.T) {
	for i := range 3 {
		for n := int64(-3); n < 28; n++ {
			shift := []int64{0, 0, 0}
			shift[i] = n
			if got := impl.OpOk(impl.Op{M: unit(), T: shift}); got != (0 <= n && n <= 23) {
				t.Error(shift, got)
			}
		}
	}
	for i := range 9 {
		for n := int64(-3); n < 4; n++ {
			m := unit()
			m[i] = n
			want := n == 1 || n == -1 || n == 0 && i%4 != 0
			if got := impl.OpOk(impl.Op{M: m, T: make([]int64, 3)}); got != want {
				t.Error(m, got)
			}
		}
	}
}

func TestWrongOps(t *testing.T) {
	still := stillOp()
	for _, o := range wrongOps() {
		if impl.OpOk(o) {
			t.Error("OpOk", o)
		}
		for _, pair := range [][2]impl.Op{{o, still}, {still, o}, {o, o}} {
			if got, ok := impl.OpMul(pair[0], pair[1]); ok || !isZeroOp(got) {
				t.Error("OpMul", pair, got, ok)
			}
		}
		if got, ok := impl.OpBack(o); ok || !isZeroOp(got) {
			t.Error("OpBack", o, got, ok)
		}
		if got := impl.OpOrder(o); got != 0 {
			t.Error("OpOrder", o, got)
		}
		if got := impl.OpShow(o); got != "" {
			t.Error("OpShow", o, got)
		}
	}
}

func TestOpMulByHand(t *testing.T) {
	for _, c := range []struct{ a, b, want string }{
		{"x,y,z", "-y,x,z+1/4", "-y,x,z+1/4"},
		{"-y,x,z+1/4", "-y,x,z+1/4", "-x,-y,z+1/2"},
		{"y,x,z", "x+1/4,y,z", "y,x+1/4,z"},
		{"x+1/4,y,z", "y,x,z", "y+1/4,x,z"},
		{"x+23/24,y+1/2,z+1/24", "x+23/24,y+1/2,z+1/24", "x+11/12,y,z+1/12"},
		{"-x,-y,-z+1/24", "x,y,z+1/12", "-x,-y,-z+23/24"},
		{"x-y,x,z+1/6", "x-y,x,z+1/6", "-y,x-y,z+1/3"},
		{"x-y+z,y,z", "x,y,z", "x-y+z,y,z"},
		{"x-y-z,y,z", "x+1/24,y+23/24,z+5/8", "x-y-z+11/24,y+23/24,z+5/8"},
	} {
		got, ok := impl.OpMul(mustOp(t, c.a), mustOp(t, c.b))
		if !ok || !sameOp(got, mustOp(t, c.want)) {
			t.Error(c, impl.OpShow(got), ok)
		}
	}
}

func TestOpMulOfWhatIsNotRight(t *testing.T) {
	for _, c := range [][2]string{
		{"x+y,y,z", "x+y,y,z"}, {"x-y,y,z", "x-y,y,z"}, {"x+y+z,y,z", "x+y+z,y,z"},
		{"x,y,z-x", "x,y,z-x"}, {"x+y,y,z", "x,x+y,z"}, {"x+y+z,y,z", "x,x+y,x+z"},
	} {
		if got, ok := impl.OpMul(mustOp(t, c[0]), mustOp(t, c[1])); ok || !isZeroOp(got) {
			t.Error(c, got, ok)
		}
	}
}

func TestOpMulByRule(t *testing.T) {
	var d dice
	list := rightOps()
	right, not := 0, 0
	for range 200000 {
		a, b := list[d.between(0, int64(len(list)-1))], list[d.between(0, int64(len(list)-1))]
		want := productByRule(a, b)
		got, ok := impl.OpMul(a, b)
		if ok != rightByRule(want) || ok && !sameOp(got, want) || !ok && !isZeroOp(got) {
			t.Fatal(a, b, got, ok, want)
		}
		if ok {
			right++
		} else {
			not++
		}
	}
	if right < 100 || not < 100 {
		t.Error("too few of a kind", right, not)
	}
}

func TestOpMulHangsOnNoBracketing(t *testing.T) {
	var d dice
	list := rightOps()
	kinds := []func() impl.Op{d.frame, d.six, func() impl.Op { return list[d.between(0, int64(len(list)-1))] }}
	whole := 0
	for i := range 60000 {
		draw := kinds[i%len(kinds)]
		a, b, c := draw(), draw(), draw()
		ab, okAB := impl.OpMul(a, b)
		bc, okBC := impl.OpMul(b, c)
		left, okLeft := impl.OpMul(ab, c)
		right, okRight := impl.OpMul(a, bc)
		if !okAB || !okBC {
			continue
		}
		if okLeft != okRight || !sameOp(left, right) {
			t.Fatal(a, b, c, left, right)
		}
		if okLeft {
			whole++
		}
	}
	if whole < 30000 {
		t.Error("too few were right", whole)
	}
}

func TestOpBackByHand(t *testing.T) {
	for _, c := range [][2]string{
		{"x,y,z", "x,y,z"},
		{"-y,x,z+1/4", "y,-x,z+3/4"},
		{"-y+1/4,x+1/3,z", "y+2/3,-x+1/4,z"},
		{"-x+1/2,-y+1/24,-z", "-x+1/2,-y+1/24,-z"},
		{"x-y,x,z+1/6", "y,-x+y,z+5/6"},
		{"x+y,y,z+1/24", "x-y,y,z+23/24"},
		{"z+1/8,x,y", "y,z,x+7/8"},
		{"x+y-z,y-z,z", "x-y,y+z,z"},
	} {
		got, ok := impl.OpBack(mustOp(t, c[0]))
		if !ok || !sameOp(got, mustOp(t, c[1])) {
			t.Error(c, impl.OpShow(got), ok)
		}
	}
	// The way back of this one is x - y + 2 z, y - z, z.
	if got, ok := impl.OpBack(mustOp(t, "x+y-z,y+z,z")); ok || !isZeroOp(got) {
		t.Error(got, ok)
	}
}

func TestOpBackOfEveryTurn(t *testing.T) {
	right, not := 0, 0
	for _, o := range rightOps() {
		back, ok := impl.OpBack(o)
		want := turnBackByRule(o.M)
		if ok != (slices.Max(want) <= 1 && slices.Min(want) >= -1) {
			t.Fatal(o, back, ok)
		}
		if !ok {
			not++
			if !isZeroOp(back) {
				t.Fatal(o, back)
			}
			continue
		}
		right++
		if !rightByRule(back) || !slices.Equal(back.M, want) || !sameOp(productByRule(o, back), stillOp()) || !sameOp(productByRule(back, o), stillOp()) {
			t.Fatal(o, back)
		}
		for _, pair := range [][2]impl.Op{{o, back}, {back, o}} {
			if got, ok := impl.OpMul(pair[0], pair[1]); !ok || !sameOp(got, stillOp()) {
				t.Fatal(pair, got, ok)
			}
		}
		if again, ok := impl.OpBack(back); !ok || !sameOp(again, o) {
			t.Fatal(o, back, again)
		}
	}
	if right < 1000 || not < 1000 {
		t.Error("too few of a kind", right, not)
	}
}

func TestOpOrderByHand(t *testing.T) {
	for _, c := range []struct {
		text string
		want int64
	}{
		{"x,y,z", 1}, {"-x,-y,-z", 2}, {"-x+1/24,-y,-z", 2}, {"x+1/2,y,z", 2}, {"z,x,y", 3},
		{"-y,x,z", 4}, {"-y,x,z+1/4", 4}, {"-y,x,z+1/2", 4}, {"x-y,x,z", 6}, {"x-y,x,z+1/6", 6},
		{"-z,-x,-y", 6}, {"x+1/3,y+1/4,z", 12}, {"x+1/8,y+1/3,z", 24}, {"x+1/24,y,z", 24},
		{"x,y+23/24,z", 24}, {"x,y,z+5/12", 12}, {"-x,-y,z+1/24", 24}, {"-y,x,z+1/24", 24},
		{"x-y,x,z+1/24", 24}, {"y+1/12,x,-z", 24}, {"y+1/24,x,-z", 0},
		{"z+1/24,x,y", 0}, {"z+1/8,x,y", 24}, {"x+y,y,z", 0}, {"x+y,y,z+1/24", 0}, {"x+y-z,y-z,z", 0},
		{"x+y,x,z", 0}, {"-x,x+y,-z", 2}, {"-x,x+y,z+1/24", 24},
	} {
		if got := impl.OpOrder(mustOp(t, c.text)); got != c.want {
			t.Error(c, got)
		}
	}
}

func TestOpOrderByRule(t *testing.T) {
	var d dice
	seen := map[int64]int{}
	list := rightOps()
	for _, m := range turns() {
		list = append(list, impl.Op{M: m, T: make([]int64, 3)})
	}
	for range 20000 {
		list = append(list, d.frame(), d.six())
	}
	for _, o := range list {
		got := impl.OpOrder(o)
		if got != orderByRule(o) {
			t.Fatal(o, got, orderByRule(o))
		}
		seen[got]++
	}
	for _, n := range []int64{0, 1, 2, 3, 4, 6, 8, 12, 24} {
		if seen[n] == 0 {
			t.Error("no Op of the order", n)
		}
	}
}

func compareByRule(a, b impl.Op) int64 {
	p, q := append(slices.Clone(a.M), a.T...), append(slices.Clone(b.M), b.T...)
	for i := 0; i < len(p) && i < len(q); i++ {
		if p[i] < q[i] {
			return -1
		}
		if p[i] > q[i] {
			return 1
		}
	}
	return sign(len(p) - len(q))
}

func TestOpCompareByHand(t *testing.T) {
	for _, c := range []struct {
		a, b string
		want int64
	}{
		{"x,y,z", "x,y,z", 0}, {"-x,y,z", "x,y,z", -1}, {"x,y,z", "-x,y,z", 1},
		{"x,y,z", "x,y,z+1/24", -1}, {"x+1/24,y,z", "x,y,z+23/24", 1}, {"x,y,-z+23/24", "x,y,z", -1},
		{"y,x,z", "x,y,z", -1}, {"x,y,z-x", "x,y,z", -1}, {"x,y+1/3,z", "x,y+3/8,z", -1}, {"x-y,y,z", "x+y,y,z", -1},
	} {
		if got := impl.OpCompare(mustOp(t, c.a), mustOp(t, c.b)); got != c.want {
			t.Error(c, got)
		}
	}
}

func TestOpCompareByRule(t *testing.T) {
	var d dice
	list := append(wrongOps(), rightOps()[:200]...)
	list = append(list,
		impl.Op{M: []int64{1, 2}, T: []int64{3}}, impl.Op{M: []int64{1}, T: []int64{2, 3}},
		impl.Op{T: []int64{1, 2, 3}}, impl.Op{M: []int64{1, 2}}, impl.Op{M: []int64{1, 2}, T: []int64{4}})
	for range 200 {
		list = append(list, impl.Op{M: d.numbers(int(d.between(0, 3)), 1), T: d.numbers(int(d.between(0, 3)), 1)})
	}
	for _, a := range list {
		for _, b := range list {
			if got := impl.OpCompare(a, b); got != compareByRule(a, b) {
				t.Fatal(a, b, got)
			}
		}
	}
}

func TestOpShowByHand(t *testing.T) {
	for _, c := range []struct {
		o    impl.Op
		want string
	}{
		{stillOp(), "x,y,z"},
		{impl.Op{M: []int64{-1, 0, 0, 0, -1, 0, 0, 0, -1}, T: []int64{0, 0, 0}}, "-x,-y,-z"},
		{impl.Op{M: []int64{0, -1, 0, 1, 0, 0, 0, 0, 1}, T: []int64{0, 0, 6}}, "-y,x,z+1/4"},
		{impl.Op{M: []int64{1, -1, 0, 1, 0, 0, 0, 0, -1}, T: []int64{23, 12, 1}}, "x-y+23/24,x+1/2,-z+1/24"},
		{impl.Op{M: []int64{1, 1, 1, 0, 1, 1, 0, 0, 1}, T: []int64{16, 0, 21}}, "x+y+z+2/3,y+z,z+7/8"},
		{impl.Op{M: []int64{-1, -1, -1, 0, -1, 1, 0, 0, -1}, T: []int64{0, 18, 20}}, "-x-y-z,-y+z+3/4,-z+5/6"},
	} {
		if got := impl.OpShow(c.o); got != c.want {
			t.Error(c.o, got, c.want)
		}
	}
}

func TestOpShowOfEachShift(t *testing.T) {
	fractions := strings.Fields("0 1/24 1/12 1/8 1/6 5/24 1/4 7/24 1/3 3/8 5/12 11/24 1/2 13/24 7/12 5/8 2/3 17/24 3/4 19/24 5/6 7/8 11/12 23/24")
	for n, f := range fractions {
		behind := "+" + f
		if n == 0 {
			behind = ""
		}
		for i, want := range []string{"x" + behind + ",y,z", "x,y" + behind + ",z", "x,y,z" + behind} {
			o := stillOp()
			o.T[i] = int64(n)
			if got := impl.OpShow(o); got != want {
				t.Error(o, got, want)
			}
		}
	}
}

func TestOpShowIsReadAgain(t *testing.T) {
	patterns := newOpText()
	for _, o := range rightOps() {
		s := impl.OpShow(o)
		got, at := impl.OpRead(s)
		if at != -1 || !sameOp(got, o) {
			t.Fatal(o, s, got, at)
		}
		if want, at := patterns.read(s); at != -1 || !sameOp(want, o) {
			t.Fatal(o, s, want, at)
		}
		if strings.ContainsAny(s, " XYZ") || strings.Contains(","+s, ",+") {
			t.Fatal(o, s)
		}
	}
}

func TestOpReadByHand(t *testing.T) {
	for _, c := range []struct {
		text, want string
	}{
		{"x,y,z", "x,y,z"}, {"+x,+y,+z", "x,y,z"}, {"X,Y,Z", "x,y,z"}, {"-X,+Y,z", "-x,y,z"},
		{"1/2-Y,X,z", "-y+1/2,x,z"}, {"+1/2+x,y,z", "x+1/2,y,z"}, {"-1/4+x,y,z-1/3", "x+3/4,y,z+2/3"},
		{"y-1/24+x,y,z", "x+y+23/24,y,z"}, {"z+y+x,y,z", "x+y+z,y,z"}, {"Z-x,Y,Z", "-x+z,y,z"},
		{"x+0/1,y+00/01,z+0/24", "x,y,z"}, {"x+1/02,y+01/2,z+01/02", "x+1/2,y+1/2,z+1/2"},
		{"x+1/03,y+1/04,z+1/06", "x+1/3,y+1/4,z+1/6"}, {"x+1/08,y+1/12,z+1/24", "x+1/8,y+1/12,z+1/24"},
		{"x+1/3,y+1/4,z+1/6", "x+1/3,y+1/4,z+1/6"}, {"x+1/8,y+7/1,z+9/2", "x+1/8,y,z+1/2"},
		{"x+99/24,y-99/24,z+99/1", "x+1/8,y+7/8,z"}, {"x+24/24,y-24/24,z-12/24", "x,y,z+1/2"},
		{"x-0/1,y-1/1,z-00/08", "x,y,z"}, {"x+25/12,y+35/12,z+11/3", "x+1/12,y+11/12,z+2/3"},
		{" x , y , z ", "x,y,z"}, {"- x + 1 / 2 , y,z", "-x+1/2,y,z"}, {"x+1 2/2 4,y,z", "x+1/2,y,z"},
		{"    x,y,z+ 1/ 4    ", "x,y,z+1/4"}, {"x   ,   -   y,z", "x,-y,z"},
	} {
		o, at := impl.OpRead(c.text)
		if got := impl.OpShow(o); at != -1 || got != c.want {
			t.Error(c, o, at, got)
		}
	}
}

func TestOpReadPlaces(t *testing.T) {
	for _, c := range []struct {
		text string
		at   int64
	}{
		{"", 0}, {" ", 0}, {",", 0}, {",,", 0}, {"x,", 2}, {"x,y", 3}, {"x,y,", 4}, {"x", 1}, {" x ", 3},
		{"x,y,z,", 6}, {"x,y,z,x", 7}, {"x,y,z,1/2", 9}, {"x,y,z,,", 6}, {"x,y,z,w", 6}, {"x,y,z,x,y,q", 10},
		{"x,,z", 2}, {" ,y,z", 0}, {"x, ,z", 2}, {"x,y, ", 4}, {"x , y , q", 7}, {"x,y , ,", 5},
		{"x,x,z", 5}, {"x,y,y", 5}, {"1/2,y,z", 7}, {"x,y,1/24 ", 9}, {"x+y,x+y,z", 9}, {"x+y,x-y,z", 9},
		{"x+y,y+z,z-x", 11}, {"x+y,y+z,z+x", 11},
		{"x+x,y,z", 0}, {"x-X,y,z", 0}, {"x,y+y,z", 2}, {"x,y,z+x-z", 4}, {"x,Y+z-y,z", 2},
		{"x+1/2+1/2,y,z", 0}, {"x,1/2+y-1/3,z", 2}, {"x,y,0/1+z+0/1", 4},
		{"x,y2,z", 2}, {"2x,y,z", 0}, {"xy,y,z", 0}, {"x,y,z1/2", 4}, {"x,1/2y,z", 2}, {"x,y,1/2 z", 4},
		{"+,y,z", 0}, {"-,y,z", 0}, {"x,y,+", 4}, {"x+,y,z", 0}, {"x,y,z-", 4}, {"x,+-y,z", 2}, {"x,--y,z", 2},
		{"x,y+-z,z", 2}, {"x,y,z+1/2+", 4},
		{"x+1/0,y,z", 0}, {"x+1/00,y,z", 0}, {"x,y+1/5,z", 2}, {"x,y,z+1/7", 4}, {"x,y,z+1/9", 4}, {"x,y,z+1/05", 4},
		{"x,y,z+1/10", 4}, {"x,y,z+1/11", 4}, {"x,y,z+1/16", 4}, {"x,y,z+1/20", 4}, {"x,y,z+1/23", 4}, {"x,y,z+1/25", 4},
		{"x,y,z+1/36", 4}, {"x,y,z+1/48", 4}, {"x,y,z+1/72", 4}, {"x,y,z+1/96", 4}, {"x,y,z+1/99", 4},
		{"x,y,z+100/1", 4}, {"x,y,z+001/2", 4}, {"x,y,z+1/002", 4}, {"x,y,z+1/240", 4}, {"x,y,z+1/2 4 0", 4},
		{"x,y+1,z", 2}, {"x,y+1/,z", 2}, {"x,y+/2,z", 2}, {"x,y+1/2/2,z", 2}, {"x,y+1//2,z", 2}, {"x,1,z", 2},
		{"x,1/x,z", 2}, {"x,y+1/-2,z", 2}, {"x,y+0.5,z", 2}, {"x,/,z", 2}, {"x,12/y,z", 2},
		{"a,y,z", 0}, {"w,y,z", 0}, {"x,y,{", 4}, {"x,y,z\n", 4}, {"x,\ty,z", 2}, {"x,y\x00,z", 2}, {"\x00x,y,z", 0},
		{"x,y\xff,z", 2}, {"x,\xe2\x80\x83y,z", 2}, {"x,y,\u00a0z", 4}, {"x,\u2212y,z", 2}, {"x,y,z+\u0661/2", 4},
		{"x;y;z", 0}, {"x,y,z;", 4}, {"x,(y),z", 2}, {"x,y,z+1/2\u0000", 4}, {"x*y,y,z", 0},
	} {
		if o, at := impl.OpRead(c.text); at != c.at || !isZeroOp(o) {
			t.Errorf("%q: %v %d, not %d", c.text, o, at, c.at)
		}
	}
}

func TestOpReadEveryFraction(t *testing.T) {
	patterns := newOpText()
	digits := []string{}
	for n := range 10 {
		digits = append(digits, string(rune('0'+n)))
	}
	for n := range 100 {
		digits = append(digits, string([]rune{rune('0' + n/10), rune('0' + n%10)}))
	}
	right := 0
	for _, a := range digits {
		for _, b := range digits {
			for _, s := range []string{"x," + a + "/" + b + "+y,z", "x,y,z-" + a + "/" + b} {
				want, place := patterns.read(s)
				got, at := impl.OpRead(s)
				if at != place || !sameOp(got, want) {
					t.Fatal(s, got, at, want, place)
				}
				if at == -1 {
					right++
				}
			}
		}
	}
	if right != 2*110*14 {
		t.Error("so many were right:", right)
	}
}

func TestOpReadLimit(t *testing.T) {
	for _, text := range []string{"-y,x,z+1/4", "x,y,z"} {
		want := mustOp(t, text)
		for _, full := range []string{
			strings.Repeat(" ", impl.MaxText-len(text)) + text,
			text + strings.Repeat(" ", impl.MaxText-len(text)),
			text[:3] + strings.Repeat(" ", impl.MaxText-len(text)) + text[3:],
		} {
			if got, at := impl.OpRead(full); len(full) != 200 || at != -1 || !sameOp(got, want) {
				t.Error(full, got, at)
			}
			for _, more := range []string{full + " ", " " + full, full + strings.Repeat(" ", 1000)} {
				if got, at := impl.OpRead(more); at != 0 || !isZeroOp(got) {
					t.Error(more, got, at)
				}
			}
		}
	}
	blanks := strings.Repeat(" ", impl.MaxText-4)
	for _, c := range []struct {
		text string
		at   int64
	}{
		{"x,y," + blanks, 4}, {"x,y," + blanks + " ", 0}, {"x,y " + blanks, 200}, {"x,y " + blanks + " ", 0},
		{"x,z,z,z" + blanks[3:], 200}, {"x,z,z,z" + blanks[2:], 0}, {strings.Repeat("x,", 100), 200},
		{strings.Repeat("x,", 100) + "y", 0}, {strings.Repeat(",", 201), 0},
	} {
		if got, at := impl.OpRead(c.text); at != c.at || !isZeroOp(got) {
			t.Error(c.text, got, at, c.at)
		}
	}
}

func TestOpReadByRule(t *testing.T) {
	var d dice
	patterns := newOpText()
	right := 0
	for range 60000 {
		terms := []string{d.term(), d.term(), d.term()}
		if d.between(0, 30) == 0 {
			terms = append(terms, d.term())
		}
		s := d.spoilt(strings.Join(terms[d.between(0, 40)/40:], ","))
		want, place := patterns.read(s)
		got, at := impl.OpRead(s)
		if at != place || !sameOp(got, want) {
			t.Fatalf("%q: %v %d, not %v %d", s, got, at, want, place)
		}
		if at == -1 {
			right++
		}
	}
	if right < 1000 {
		t.Error("too few were right:", right)
	}
}

// opsWithRoom: two Ops, with room behind their lists that holds other numbers.
func opsWithRoom() ([]int64, impl.Op, impl.Op) {
	whole := []int64{
		0, -1, 0, 1, 0, 0, 0, 0, 1, 77, 6, 23, 12, 78,
		0, 0, 1, 1, 0, 0, 0, 1, 0, 79, 1, 0, 23, 80, 81,
	}
	return whole, impl.Op{M: whole[:9], T: whole[10:13]}, impl.Op{M: whole[14:23], T: whole[24:27]}
}

func TestOpArgumentsStay(t *testing.T) {
	whole, a, b := opsWithRoom()
	want, _, _ := opsWithRoom()
	product, ok := impl.OpMul(a, b)
	back, okBack := impl.OpBack(a)
	if !ok || !okBack || !impl.OpOk(a) || !impl.OpOk(b) || impl.OpOrder(b) != 3 || impl.OpCompare(a, b) != -1 {
		t.Error(product, ok, back, okBack)
	}
	if got := impl.OpShow(a) + " " + impl.OpShow(b); got != "-y+1/4,x+23/24,z+1/2 z+1/24,x,y+23/24" {
		t.Error(got)
	}
	for _, o := range []impl.Op{product, back} {
		for _, list := range [][]int64{o.M, o.T} {
			_ = append(list, 55, 56)
			for i := range list {
				list[i] = -9
			}
		}
	}
	if !slices.Equal(whole, want) {
		t.Error(whole, want)
	}
}

func TestOpComparePassesOverWhatLiesBehind(t *testing.T) {
	whole := []int64{1, 2, 3, 4, 5, 6}
	a, b := impl.Op{M: whole[:2], T: whole[2:3]}, impl.Op{M: whole[:1], T: []int64{2, 3}}
	if got := impl.OpCompare(a, b); got != 0 {
		t.Error(got)
	}
	if !slices.Equal(whole, []int64{1, 2, 3, 4, 5, 6}) {
		t.Error(whole)
	}
}

// checkNewOp asks the same thing twice: what is done with the first answer is
// not to be seen in the second, nor in one list what is done with the other.
func checkNewOp(t *testing.T, name string, ask func() impl.Op) {
	t.Helper()
	first, second := ask(), ask()
	want := cloneOp(first)
	for _, list := range [][]int64{first.M[:cap(first.M)], first.T[:cap(first.T)]} {
		for i := range list {
			list[i] = -9
		}
	}
	if !sameOp(second, want) || !sameOp(ask(), want) {
		t.Error(name, second, want)
	}
	wide := second.M[:cap(second.M)]
	for i := range wide {
		wide[i] = -9
	}
	if !slices.Equal(second.T, want.T) {
		t.Error(name, "two lists share memory", second.T, want.T)
	}
	third := ask()
	wide = third.T[:cap(third.T)]
	for i := range wide {
		wide[i] = -9
	}
	if !slices.Equal(third.M, want.M) {
		t.Error(name, "two lists share memory", third.M, want.M)
	}
}

func TestOpAnswersAreNewMemory(t *testing.T) {
	_, a, b := opsWithRoom()
	checkNewOp(t, "OpMul", func() impl.Op { o, _ := impl.OpMul(a, b); return o })
	checkNewOp(t, "OpMul by nothing", func() impl.Op { o, _ := impl.OpMul(stillOp(), b); return o })
	checkNewOp(t, "OpBack", func() impl.Op { o, _ := impl.OpBack(a); return o })
	checkNewOp(t, "OpRead", func() impl.Op { o, _ := impl.OpRead("z,x+1/2,y"); return o })
}

func TestOpAnswersAtEveryArgument(t *testing.T) {
	var d dice
	wild := func(most int64) []int64 {
		list := make([]int64, d.between(0, most))
		for i := range list {
			list[i] = int64(d.bits()) >> d.between(0, 63)
		}
		return list
	}
	for range 20000 {
		a, b := impl.Op{M: wild(11), T: wild(4)}, impl.Op{M: wild(11), T: wild(4)}
		_, ok := impl.OpMul(a, b)
		_, okBack := impl.OpBack(a)
		if impl.OpOk(a) != rightByRule(a) || okBack && !rightByRule(a) || ok && !rightByRule(b) || impl.OpOrder(a) != 0 && !rightByRule(a) {
			t.Error(a, b)
		}
		if impl.OpCompare(a, b) != -impl.OpCompare(b, a) || (impl.OpShow(a) != "") != rightByRule(a) {
			t.Error(a, b)
		}
		text := make([]byte, d.between(0, 210))
		for i := range text {
			text[i] = byte(d.bits())
		}
		if o, at := impl.OpRead(string(text)); at == -1 || !isZeroOp(o) {
			t.Error(text, o, at)
		}
	}
}
