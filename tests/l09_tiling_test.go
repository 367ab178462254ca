package tests

import (
	"math"
	"slices"
	"strings"
	"sync"
	"testing"

	"loop.example/g00055/impl"
)

func TestTilingLimits(t *testing.T) {
	got := []int64{impl.MaxRow, impl.MaxTimes, impl.MaxGolden, impl.MaxFrom, impl.MaxShort, impl.MaxFactor}
	if !slices.Equal(got, []int64{rowMost, timesMost, goldenMost, fromMost, shortMost, factorMost}) {
		t.Error(got)
	}
}

func TestInflateByHand(t *testing.T) {
	for _, c := range []struct {
		row   string
		times int64
		want  string
	}{
		{"", 0, ""}, {"", 1, ""}, {"", 30, ""},
		{"L", 0, "L"}, {"L", 1, "LS"}, {"L", 2, "LSL"}, {"L", 3, "LSLLS"}, {"L", 4, "LSLLSLSL"}, {"L", 5, "LSLLSLSLLSLLS"},
		{"S", 0, "S"}, {"S", 1, "L"}, {"S", 2, "LS"}, {"S", 3, "LSL"},
		{"LL", 1, "LSLS"}, {"SS", 1, "LL"}, {"SS", 2, "LSLS"}, {"SSS", 0, "SSS"}, {"LLL", 2, "LSLLSLLSL"},
		{"SL", 1, "LLS"}, {"SLLS", 1, "LLSLSL"}, {"LSSL", 2, "LSLLSLSLSL"},
	} {
		if got, ok := impl.Inflate(c.row, c.times); !ok || got != c.want {
			t.Error(c.row, c.times, got, ok)
		}
	}
}

func checkInflate(t *testing.T, row string, times int64) {
	t.Helper()
	want, right := inflateByRule(row, times)
	if got, ok := impl.Inflate(row, times); got != want || ok != right {
		t.Error(len(row), times, len(got), ok, right)
	}
}

func TestInflateByRule(t *testing.T) {
	var d dice
	for n := range 8 {
		for _, row := range rowsOf(n) {
			for times := range int64(8) {
				checkInflate(t, row, times)
			}
		}
	}
	for range 200 {
		checkInflate(t, d.row(d.between(0, 300)), d.between(-1, 12))
	}
	for _, row := range []string{"", "L", "S", "LS", "SL", "SS", "LL"} {
		for times := int64(-2); times < 34; times++ {
			checkInflate(t, row, times)
		}
	}
}

func TestInflateWantsARow(t *testing.T) {
	for _, row := range append(wrongRows(), strings.Repeat("S", rowMost+1), strings.Repeat("L", rowMost)+"X") {
		for _, times := range []int64{0, 1, 3, timesMost} {
			if got, ok := impl.Inflate(row, times); ok || got != "" {
				t.Errorf("%.20q %d %.20q", row, times, got)
			}
		}
	}
}

func TestInflateTimes(t *testing.T) {
	for _, times := range []int64{-1, -2, timesMost + 1, timesMost + 2, 1 << 32, 1 << 62, math.MaxInt64, math.MinInt64, math.MinInt64 + 1} {
		for _, row := range []string{"", "L", "S", "LS"} {
			if got, ok := impl.Inflate(row, times); ok || got != "" {
				t.Error(row, times, got)
			}
		}
	}
	if got, ok := impl.Inflate("", timesMost); !ok || got != "" {
		t.Error(got, ok)
	}
}

// Each row is held against the number of letters that it has by the rule of
// counts: n times L and m times S become n + m times L and n times S.
func TestInflateUpToMaxRow(t *testing.T) {
	for _, c := range []struct {
		longs, shorts int
		times         int64
		want          int
	}{
		{10000, 0, 0, 10000}, {10000, 0, 1, 20000}, {10000, 1, 1, -1}, {9999, 1, 1, 19999}, {9999, 2, 1, 20000}, {9999, 3, 1, -1}, {10001, 0, 1, -1},
		{0, 20000, 0, 20000}, {0, 20000, 1, 20000}, {0, 20000, 2, -1}, {0, 20000, 3, -1}, {0, 20000, 30, -1}, {0, 20001, 0, -1}, {0, 20001, 1, -1},
		{20000, 0, 0, 20000}, {20000, 0, 1, -1}, {20001, 0, 0, -1}, {1, 19999, 0, 20000}, {1, 19999, 1, -1}, {1, 19998, 1, 20000}, {1, 19998, 2, -1},
		{0, 10000, 2, 20000}, {0, 10000, 3, -1}, {0, 10001, 2, -1}, {5000, 5000, 1, 15000}, {6666, 1, 2, 20000}, {6666, 2, 2, -1}, {6666, 1, 3, -1},
		{1, 0, 20, 17711}, {1, 0, 21, -1}, {0, 1, 21, 17711}, {0, 1, 22, -1}, {1, 0, 30, -1}, {0, 1, 30, -1}, {2, 0, 18, 13530}, {2, 0, 19, -1},
	} {
		for _, row := range []string{strings.Repeat("L", c.longs) + strings.Repeat("S", c.shorts), strings.Repeat("S", c.shorts) + strings.Repeat("L", c.longs)} {
			got, ok := impl.Inflate(row, c.times)
			if want, right := inflateByRule(row, c.times); got != want || ok != right {
				t.Error(c, len(got), ok)
			}
			if ok != (c.want >= 0) || len(got) != max(c.want, 0) {
				t.Error(c, len(got), ok)
			}
		}
	}
}

func TestDeflateByHand(t *testing.T) {
	for _, c := range []struct {
		row, want string
		ok        bool
	}{
		{"", "", true}, {"L", "S", true}, {"LS", "L", true}, {"LL", "SS", true}, {"LSL", "LS", true}, {"LLS", "SL", true}, {"LSLS", "LL", true},
		{"LSLLSLSL", "LSLLS", true}, {"LLLL", "SSSS", true}, {"LLSL", "SLS", true},
		{"S", "", false}, {"SL", "", false}, {"SS", "", false}, {"LSS", "", false}, {"LLSS", "", false}, {"LSSL", "", false}, {"SLSL", "", false}, {"LSLSS", "", false}, {"LSLLSSL", "", false},
	} {
		if got, ok := impl.Deflate(c.row); got != c.want || ok != c.ok {
			t.Error(c, got, ok)
		}
	}
}

// Every short row is held against all rows that could make it.
func TestDeflateIsTheRowThatMakesIt(t *testing.T) {
	makers := map[string][]string{}
	for n := range 12 {
		for _, row := range rowsOf(n) {
			made, _ := inflateByRule(row, 1)
			makers[made] = append(makers[made], row)
		}
	}
	for n := range 12 {
		for _, row := range rowsOf(n) {
			got, ok := impl.Deflate(row)
			if list := makers[row]; len(list) > 1 || ok != (len(list) == 1) || ok && got != list[0] || !ok && got != "" {
				t.Error(row, got, ok, list)
			}
		}
	}
}

func TestDeflateByRule(t *testing.T) {
	var d dice
	for range 300 {
		row := d.row(d.between(0, 400))
		if d.between(0, 3) > 0 {
			row, _ = inflateByRule(row, 1)
		}
		if at := d.between(0, 400); d.between(0, 3) == 0 && int(at) < len(row) {
			row = row[:at] + "S" + row[at:]
		}
		want, right := deflateByRule(row)
		if got, ok := impl.Deflate(row); got != want || ok != right {
			t.Error(row, got, ok)
		}
	}
}

func TestDeflateLimits(t *testing.T) {
	for _, c := range []struct{ row, want string }{
		{strings.Repeat("L", rowMost), strings.Repeat("S", rowMost)},
		{strings.Repeat("LS", rowMost/2), strings.Repeat("L", rowMost/2)},
		{strings.Repeat("LLS", rowMost/3) + "LL", strings.Repeat("SL", rowMost/3) + "SS"},
	} {
		if got, ok := impl.Deflate(c.row); !ok || got != c.want {
			t.Error(len(c.row), len(got), ok)
		}
		if got, ok := impl.Deflate(c.row + "L"); ok || got != "" {
			t.Error(len(c.row)+1, len(got), ok)
		}
	}
	for _, row := range append(wrongRows(), strings.Repeat("L", rowMost-1)+"X", strings.Repeat("LS", rowMost/2)+"S") {
		if got, ok := impl.Deflate(row); ok || got != "" {
			t.Errorf("%.20q %.20q", row, got)
		}
	}
}

// P13: what Inflate makes Deflate takes back, as often as it was made.
func TestDeflateTakesBackWhatInflateMakes(t *testing.T) {
	var d dice
	rows := slices.Concat(rowsOf(0), rowsOf(1), rowsOf(2), rowsOf(6), []string{strings.Repeat("S", rowMost), strings.Repeat("L", rowMost/2)})
	for range 100 {
		rows = append(rows, d.row(d.between(0, 500)))
	}
	for _, row := range rows {
		for _, times := range []int64{0, 1, 2, 3, 5, 8} {
			back, ok := impl.Inflate(row, times)
			if _, right := inflateByRule(row, times); ok != right {
				t.Error(len(row), times, ok)
			}
			for i := int64(0); ok && i < times; i++ {
				back, ok = impl.Deflate(back)
				if !ok {
					t.Errorf("%.20q %d %d", row, times, i)
				}
			}
			if ok && back != row {
				t.Errorf("%.20q %d %.20q", row, times, back)
			}
		}
	}
}

func TestDeflateTakesLBackFromTwentyTimes(t *testing.T) {
	row, ok := impl.Inflate("L", 20)
	for times := int64(20); times >= 0; times-- {
		if want, _ := inflateByRule("L", times); !ok || row != want {
			t.Error(times, len(row), ok)
		}
		row, ok = impl.Deflate(row)
	}
	if !ok || row != "S" {
		t.Error(row, ok)
	}
	if row, ok = impl.Deflate(row); ok || row != "" {
		t.Error(row, ok)
	}
}

func TestGoldenByHand(t *testing.T) {
	want := []int64{0, 1, 3, 4, 6, 8, 9, 11, 12, 14, 16, 17, 19, 21, 22, 24, 25, 27, 29, 30, 32}
	for k, g := range want {
		if got := impl.Golden(int64(k)); got != g {
			t.Error(k, got)
		}
	}
	for _, c := range [][2]int64{{100, 161}, {1000, 1618}, {1000000, 1618033}, {100000000, 161803398}, {999999999, 1618033987}, {goldenMost, 1618033988}} {
		if got := impl.Golden(c[0]); got != c[1] {
			t.Error(c, got)
		}
	}
	for _, k := range []int64{-1, -2, -goldenMost, goldenMost + 1, goldenMost + 2, 1 << 31, 1 << 32, 1 << 62, math.MaxInt64, math.MinInt64, math.MinInt64 + 1} {
		if got := impl.Golden(k); got != 0 {
			t.Error(k, got)
		}
	}
}

func TestGoldenByRule(t *testing.T) {
	var d dice
	check := func(k int64) {
		if got := impl.Golden(k); got != goldenByRule(k) || !isGolden(got, k) {
			t.Error(k, got, goldenByRule(k))
		}
	}
	for k := range int64(2000) {
		check(k)
		check(goldenMost - k)
		check(d.between(0, goldenMost))
	}
}

// At the numbers 1, 2, 3, 5, .. the product lies by turns just above the next
// of them and just below it; their sums and multiples lie nearly as near.
func TestGoldenNearWholeNumbers(t *testing.T) {
	list := fibonacci(goldenMost)
	if len(list) != 43 || list[42] != 701408733 {
		t.Fatal(list)
	}
	for i, k := range list {
		next := int64(2)
		if i > 0 {
			next = k + list[i-1]
		}
		if i%2 == 0 {
			next--
		}
		if got := impl.Golden(k); got != next {
			t.Error(k, got, next)
		}
		for _, n := range []int64{k - 1, k, k + 1, 2 * k, 3 * k, goldenMost - k} {
			for _, more := range list {
				for _, k := range []int64{n, n + more, n - more} {
					if k >= 0 && k <= goldenMost && !isGolden(impl.Golden(k), k) {
						t.Error(k, impl.Golden(k))
					}
				}
			}
		}
	}
}

func TestCutRowByHand(t *testing.T) {
	for _, c := range []struct {
		from, n int64
		want    string
	}{
		{0, 0, ""}, {0, 1, "L"}, {0, 2, "LS"}, {0, 3, "LSL"}, {0, 13, "LSLLSLSLLSLLS"}, {1, 1, "S"}, {1, 3, "SLL"}, {4, 5, "SLSLL"}, {12, 4, "SLSL"},
		{fromMost, 0, ""}, {5, 0, ""},
	} {
		if got := impl.CutRow(c.from, c.n); got != c.want {
			t.Error(c, got)
		}
	}
}

func TestCutRowByRule(t *testing.T) {
	var d dice
	for range 200 {
		from, n := d.between(0, fromMost), d.between(0, 60)
		if got := impl.CutRow(from, n); got != cutByRule(from, n) || len(got) != int(n) {
			t.Error(from, n, got)
		}
	}
	for _, k := range fibonacci(fromMost) {
		for _, from := range []int64{k - 3, k - 2, k - 1, k, k + 1} {
			if got := impl.CutRow(from, 5); got != cutByRule(from, 5) {
				t.Error(from, got)
			}
		}
	}
}

func TestCutRowLimits(t *testing.T) {
	wrong := []int64{-1, -2, 1 << 32, 1 << 62, math.MaxInt64, math.MaxInt64 - 1, math.MinInt64, math.MinInt64 + 1}
	for _, from := range append(wrong, fromMost+1, fromMost+2, goldenMost) {
		for _, n := range []int64{0, 1, 5, rowMost} {
			if got := impl.CutRow(from, n); got != "" {
				t.Error(from, n, len(got))
			}
		}
	}
	for _, n := range append(wrong, rowMost+1, rowMost+2) {
		for _, from := range []int64{0, 1, 5, fromMost, -1, fromMost + 1} {
			if got := impl.CutRow(from, n); got != "" {
				t.Error(from, n, len(got))
			}
		}
	}
	for _, from := range []int64{0, 1, fromMost - 1, fromMost} {
		for _, n := range []int64{1, rowMost - 1, rowMost} {
			if got := impl.CutRow(from, n); got != cutByRule(from, n) || len(got) != int(n) {
				t.Error(from, n, len(got))
			}
		}
	}
}

// A row is cut the same, whether in one piece or in several.
func TestCutRowInPieces(t *testing.T) {
	for _, from := range []int64{0, 7, 46367, fromMost - 700} {
		whole := impl.CutRow(from, 700)
		for i := int64(0); i < 700; i += 70 {
			if got := impl.CutRow(from+i, 70); got != whole[i:i+70] {
				t.Error(from, i, got)
			}
		}
	}
}

// P13: the row inflated from L is the row cut from 0 on.
func TestInflatedFromLIsCutFromNought(t *testing.T) {
	for times := range int64(21) {
		row, ok := impl.Inflate("L", times)
		if !ok || row != impl.CutRow(0, int64(len(row))) || len(row) != int(append([]int64{1}, fibonacci(rowMost)[1:]...)[times]) {
			t.Error(times, len(row), ok)
		}
		if cut := impl.CutRow(0, rowMost); !strings.HasPrefix(cut, row) {
			t.Error(times)
		}
	}
}

// madeRows: rows of at most MaxShort letters that are inflated or cut.
func madeRows() []string {
	list := []string{}
	for times := range int64(15) {
		row, _ := impl.Inflate("L", times)
		list = append(list, row)
	}
	for _, from := range []int64{0, 1, 2, 12, 33, 1000, 46366, 46367, 63245985, fromMost - 1, fromMost} {
		for _, n := range []int64{0, 1, 2, 7, 55, 200, 999, shortMost} {
			list = append(list, impl.CutRow(from, n))
		}
	}
	return list
}

// P13: a row so made is balanced.
func TestMadeRowsAreBalanced(t *testing.T) {
	longest := 0
	for _, row := range madeRows() {
		if !impl.Balanced(row) {
			t.Error(row)
		}
		longest = max(longest, len(row))
	}
	if longest != shortMost {
		t.Error(longest)
	}
}

// P13: a row so made has at most n + 1 Factors of n letters; a long one has as
// many.
func TestMadeRowsHaveFewFactors(t *testing.T) {
	for _, row := range madeRows() {
		for n := int64(1); n <= factorMost; n++ {
			got := impl.Factors(row, n)
			if len(got) > int(n)+1 || len(row) >= 200 && len(got) != int(n)+1 || len(got) == 0 && len(row) >= int(n) {
				t.Error(row, n, len(got))
			}
		}
	}
}

func TestFactorsByHand(t *testing.T) {
	for _, c := range []struct {
		row  string
		n    int64
		want string
	}{
		{"", 1, ""}, {"", 40, ""}, {"L", 1, "L"}, {"S", 1, "S"}, {"L", 2, ""}, {"SL", 1, "L S"}, {"SL", 2, "SL"}, {"SL", 3, ""},
		{"LLLL", 1, "L"}, {"LLLL", 2, "LL"}, {"LLLL", 4, "LLLL"}, {"LLLL", 5, ""}, {"SSS", 2, "SS"},
		{"LSLLSLSL", 1, "L S"}, {"LSLLSLSL", 2, "LL LS SL"}, {"LSLLSLSL", 3, "LLS LSL SLL SLS"}, {"LSLLSLSL", 4, "LLSL LSLL LSLS SLLS SLSL"},
		{"LSLLSLSL", 7, "LSLLSLS SLLSLSL"}, {"LSLLSLSL", 8, "LSLLSLSL"}, {"LSLLSLSL", 9, ""},
		{"SSLLSS", 2, "LL LS SL SS"}, {"SSLLSS", 3, "LLS LSS SLL SSL"}, {"SSSSL", 2, "SL SS"},
	} {
		if got := impl.Factors(c.row, c.n); !slices.Equal(got, strings.Fields(c.want)) {
			t.Error(c, got)
		}
	}
}

func TestFactorsByRule(t *testing.T) {
	var d dice
	for n := range 9 {
		for _, row := range rowsOf(n) {
			for n := int64(-1); n < 11; n++ {
				if got := impl.Factors(row, n); !slices.Equal(got, factorsByRule(row, n)) {
					t.Error(row, n, got)
				}
			}
		}
	}
	for range 100 {
		row := d.row(d.between(0, shortMost+2))
		for _, n := range []int64{0, 1, 2, 5, 6, 7, 10, factorMost - 1, factorMost, factorMost + 1, int64(len(row)), int64(len(row)) + 1} {
			if got := impl.Factors(row, n); !slices.Equal(got, factorsByRule(row, n)) {
				t.Error(len(row), n, got)
			}
		}
	}
}

func TestFactorsLimits(t *testing.T) {
	row := impl.CutRow(0, shortMost+1)
	for _, n := range []int64{1, 2, 39, factorMost} {
		if got := impl.Factors(row[:shortMost], n); len(got) != int(n)+1 {
			t.Error(n, got)
		}
		if got := impl.Factors(row, n); len(got) != 0 {
			t.Error(n, got)
		}
		if got := impl.Factors(row[:n], n); !slices.Equal(got, []string{row[:n]}) {
			t.Error(n, got)
		}
		if got := impl.Factors(row[:n-1], n); len(got) != 0 {
			t.Error(n, got)
		}
	}
	for _, n := range []int64{0, -1, factorMost + 1, factorMost + 2, shortMost, 1 << 32, 1<<32 + 1, 1 << 62, math.MaxInt64, math.MinInt64, math.MinInt64 + 1} {
		for _, row := range []string{"", "L", row[:41], row[:shortMost]} {
			if got := impl.Factors(row, n); len(got) != 0 {
				t.Error(len(row), n, got)
			}
		}
	}
	for _, row := range append(wrongRows(), strings.Repeat("L", shortMost-1)+"X", strings.Repeat("L", shortMost+1)) {
		for n := int64(1); n < 5; n++ {
			if got := impl.Factors(row, n); len(got) != 0 {
				t.Errorf("%.20q %d %q", row, n, got)
			}
		}
	}
}

func TestBalancedByHand(t *testing.T) {
	for _, row := range []string{"", "L", "S", "LL", "SS", "LS", "SL", "LSL", "LLS", "SSL", "LSLS", "LLLL", "SLLS", "LSLLS", "LSLSLLS", "SLSLLSLS", strings.Repeat("L", 500), strings.Repeat("LLS", 100)} {
		if !impl.Balanced(row) {
			t.Error(row)
		}
	}
	for _, row := range []string{"LLSS", "SSLL", "LLLSS", "LLSLSS", "SSLSLL", "LLLSLSLS", "LLSLLLSLSLL", "LSLSLLSLLSLSLS", strings.Repeat("LLS", 100) + "LSLS", strings.Repeat("L", 400) + "SLSLSL"} {
		if impl.Balanced(row) {
			t.Error(row)
		}
	}
}

func TestBalancedByRule(t *testing.T) {
	var d dice
	for n := range 13 {
		for _, row := range rowsOf(n) {
			if got := impl.Balanced(row); got != balancedByRule(row) {
				t.Error(row, got)
			}
		}
	}
	for range 200 {
		from, n := d.between(0, fromMost), d.between(2, 150)
		row := []byte(impl.CutRow(from, n))
		for range d.between(0, 2) {
			at := d.between(0, n-2)
			row[at], row[at+1] = row[at+1], row[at]
		}
		if got := impl.Balanced(string(row)); got != balancedByRule(string(row)) {
			t.Error(string(row), got)
		}
	}
}

func TestBalancedLimits(t *testing.T) {
	for _, row := range []string{strings.Repeat("L", shortMost+1), strings.Repeat("S", shortMost+1), impl.CutRow(5, shortMost+1)} {
		if impl.Balanced(row) || !impl.Balanced(row[1:]) || !impl.Balanced(row[:shortMost]) {
			t.Errorf("%.20q", row)
		}
	}
	for _, row := range append(wrongRows(), strings.Repeat("L", shortMost-1)+"X", "X"+strings.Repeat("L", shortMost-1)) {
		if impl.Balanced(row) {
			t.Errorf("%.20q", row)
		}
	}
}

// What is uneven may lie at the row's two ends alone, and only over stretches
// of just one length.
func TestBalancedLooksAtTheEnds(t *testing.T) {
	for n := 2; n < shortMost/2; n += 83 {
		middle := strings.Repeat("L", shortMost-2*n)
		row := strings.Repeat("L", n-2) + "SS" + middle + strings.Repeat("L", n)
		if impl.Balanced(row) {
			t.Error(n)
		}
		row = "S" + strings.Repeat("L", n) + "S"
		if !impl.Balanced(row) || !impl.Balanced(row+row[1:]) || impl.Balanced(row+row[2:]) != balancedByRule(row+row[2:]) {
			t.Error(n)
		}
	}
}

func TestTilingAnswersAreNewMemory(t *testing.T) {
	row := strings.Clone(impl.CutRow(3, 500))
	if got, ok := impl.Inflate(row, 0); !ok || got != row || sharesText(got, row) {
		t.Error("Inflate shares its argument")
	}
	for _, n := range []int64{1, 2, 20, factorMost} {
		list := impl.Factors(row, n)
		for i, text := range list {
			if sharesText(text, row) || slices.ContainsFunc(list[i+1:], func(other string) bool { return sharesText(text, other) }) {
				t.Error(n, i, text)
			}
		}
		checkNewList(t, "Factors", func() []string { return impl.Factors(row, n) })
	}
}

// Every call answers the same, one behind the other and all at once.
func TestTilingAnswersTheSame(t *testing.T) {
	var all sync.WaitGroup
	for from := range int64(8) {
		all.Go(func() {
			row := cutByRule(from, 300)
			for range 3 {
				if impl.CutRow(from, 300) != row || !impl.Balanced(row) || !slices.Equal(impl.Factors(row, 9), factorsByRule(row, 9)) {
					t.Error(from)
				}
				want, _ := inflateByRule(row, 4)
				if got, ok := impl.Inflate(row, 4); !ok || got != want {
					t.Error(from)
				}
			}
		})
	}
	all.Wait()
}

// wildRow: a row, one that is spoilt in one letter, or any bytes.
func (d *dice) wildRow() string {
	row := []byte(d.row(d.between(0, 40)))
	switch d.between(0, 5) {
	case 0:
		for i := range row {
			row[i] = byte(d.bits())
		}
	case 1:
		if len(row) > 0 {
			row[d.between(0, int64(len(row))-1)] = byte(d.bits())
		}
	case 2:
		return impl.CutRow(d.between(0, 100), d.between(shortMost-2, shortMost+2))
	case 3:
		return strings.Repeat(d.pick("L", "S"), int(d.between(rowMost-1, rowMost+2)))
	}
	return string(row)
}

func TestTilingAnswersAtEveryArgument(t *testing.T) {
	var d dice
	for range 3000 {
		row, n := d.wildRow(), d.wildNumber()
		if d.between(0, 1) == 0 {
			n = d.between(-2, 45)
		}
		checkInflate(t, row, n)
		want, right := deflateByRule(row)
		if got, ok := impl.Deflate(row); got != want || ok != right {
			t.Errorf("%.20q %.20q %t", row, got, ok)
		}
		if got := impl.Golden(n); got != goldenByRule(n) {
			t.Error(n, got)
		}
		if got := impl.Factors(row, n); !slices.Equal(got, factorsByRule(row, n)) {
			t.Errorf("%.20q %d %q", row, n, got)
		}
		if got := impl.Balanced(row); len(row) < 50 && got != balancedByRule(row) || got && !isRowByRule(row, shortMost) {
			t.Errorf("%.20q %t", row, got)
		}
		from := d.wildNumber()
		if got := impl.CutRow(from, n); n < 50 && got != cutByRule(from, n) || len(got) > rowMost {
			t.Error(from, n, len(got))
		}
	}
}
