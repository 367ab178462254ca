package tests

import (
	"math"
	"slices"
	"strconv"
	"strings"
	"sync"
	"testing"

	"loop.example/g00055/impl"
)

func TestFileLimits(t *testing.T) {
	got := []int64{impl.MaxName, impl.MaxValue, impl.MaxItems, impl.MaxCells, impl.MaxData, impl.MaxMend}
	if !slices.Equal(got, []int64{nameMost, valueMost, itemsMost, cellsMost, dataMost, mendMost}) {
		t.Error(got)
	}
	got = []int64{impl.DataLong, impl.DataByte, impl.DataHead, impl.DataToken, impl.DataRow, impl.DataMany}
	if !slices.Equal(got, []int64{faultLong, faultByte, faultHead, faultToken, faultRow, faultMany}) {
		t.Error(got)
	}
}

// checkData asks whether it is as told, and what is told of it then: its text,
// and the columns of its items.
func checkData(t *testing.T, d impl.Data) bool {
	t.Helper()
	right := isDataByRule(d)
	if got := impl.DataOk(d); got != right {
		t.Errorf("%.200q %t", told(d), got)
	}
	if got := impl.ShowData(d); got != showByRule(d) {
		t.Errorf("%.200q %.200q", told(d), got)
	}
	for i, item := range d.Items {
		if i < 3 || i > len(d.Items)-3 {
			got, ok := impl.Column(d, item.Name)
			if ok != right || right && !slices.Equal(got, item.Values) || !right && len(got) != 0 {
				t.Errorf("%.200q %.40q %.200q %t", told(d), item.Name, got, ok)
			}
		}
	}
	return right
}

func TestDataOkByHand(t *testing.T) {
	for why, d := range map[string]impl.Data{
		"a name alone":                         block("d", nil),
		"one single item":                      block("d", nil, single("a", "1")),
		"single items":                         block("d", nil, single("a", "1"), single("b", ""), single("c", "x y")),
		"one loop":                             block("d", []int64{1}, column("x", "1")),
		"one loop of two":                      block("d", []int64{2}, column("x", "1", "2"), column("y", "3", "4")),
		"two loops":                            block("d", []int64{1, 2}, column("x", "1"), column("y", "3", "4"), column("z", "", "")),
		"two loops of like Rows":               block("d", []int64{1, 1}, column("x", "1"), column("y", "3")),
		"a loop of no rows":                    block("d", []int64{2}, column("x"), column("y")),
		"a loop of no rows ahead of some":      block("d", []int64{1, 1}, column("x"), column("y", "1")),
		"a loop of no rows behind some":        block("d", []int64{1, 1}, column("x", "1"), column("y")),
		"both":                                 block("d", []int64{1}, single("a", "1"), column("x", "1", "2")),
		"both, of no rows":                     block("d", []int64{1, 1}, single("a", "1"), column("x"), column("y")),
		"names that differ in a letter's size": block("D", []int64{1, 1}, single("a", "1"), single("A", "2"), column("aA", "1"), column("Aa", "1")),
		"the block's name as a single item's":  block("a", nil, single("a", "1")),
		"the block's name as a loop's item's":  block("x", []int64{2}, column("y", "1"), column("x", "1")),
		"values alike":                         block("d", []int64{1}, single("a", "1"), single("b", "1"), column("x", "1", "1", "1")),
		"a value as a name":                    block("d", nil, single("a", "b"), single("b", "a")),
		"the given one":                        handData(),
	} {
		if !impl.DataOk(d) || !checkData(t, d) {
			t.Error(why)
		}
	}
	for why, d := range wrongData() {
		if impl.DataOk(d) || checkData(t, d) || impl.ShowData(d) != "" {
			t.Error(why)
		}
	}
}

// checkName asks of one text whether it is a name, wherever names stand.
func checkName(t *testing.T, name string, right bool) {
	t.Helper()
	for _, d := range []impl.Data{
		block(name, nil),
		block("d", nil, single(name, "1")),
		block("d", nil, single("zz", "1"), single(name, "1")),
		block("d", []int64{1}, column(name)),
		block("d", []int64{1, 2}, column("zz", "1"), column("zy", "1"), column(name, "2")),
	} {
		if got := impl.DataOk(d); got != right {
			t.Errorf("%q %t", told(d), got)
		}
		checkData(t, d)
	}
	if got := namePattern.MatchString(name); got != right {
		t.Errorf("%.50q by the rule %t", name, got)
	}
}

func TestFileNames(t *testing.T) {
	for _, name := range []string{"a", "z", "A", "Z", "a0", "a9", "az", "aA", "aZ", "a_", "a__", "loop_", "data_", "data_a", "x_y_9", strings.Repeat("a", nameMost), strings.Repeat("a", nameMost+1), "a" + strings.Repeat("_", nameMost), "Q" + strings.Repeat("9", nameMost)} {
		checkName(t, name, true)
	}
	for _, name := range wrongNames() {
		checkName(t, name, false)
	}
	for b := range 256 {
		letter := b >= 'a' && b <= 'z' || b >= 'A' && b <= 'Z'
		later := letter || b >= '0' && b <= '9' || b == '_'
		text := string([]byte{byte(b)})
		checkName(t, text, letter)
		checkName(t, text+"b", letter)
		checkName(t, "b"+text, later)
		checkName(t, "b"+text+"b", later)
		checkName(t, strings.Repeat("b", nameMost)+text, later)
		checkName(t, "b"+text+strings.Repeat("b", nameMost-1), later)
		checkName(t, strings.Repeat("b", nameMost+1)+text, false)
	}
}

func checkValueText(t *testing.T, value string, right bool) {
	t.Helper()
	for _, d := range []impl.Data{
		block("d", nil, single("a", value)),
		block("d", nil, single("a", "1"), single("b", value)),
		block("d", []int64{1}, column("x", value)),
		block("d", []int64{2}, column("x", "1", "2"), column("y", "3", value)),
		block("d", []int64{1, 1}, column("x"), column("y", value, "3")),
	} {
		if got := impl.DataOk(d); got != right {
			t.Errorf("%q %t", told(d), got)
		}
		checkData(t, d)
	}
}

func TestFileValues(t *testing.T) {
	for _, value := range append(oddValues(), strings.Repeat("v", valueMost), strings.Repeat(" ", valueMost), strings.Repeat("_", valueMost), strings.Repeat("#", valueMost-1)) {
		checkValueText(t, value, true)
	}
	for _, value := range wrongValues() {
		checkValueText(t, value, false)
	}
	for b := range 256 {
		right := b >= 32 && b <= 126 && b != 39
		text := string([]byte{byte(b)})
		for _, value := range []string{text, text + "v", "v" + text, strings.Repeat("v", valueMost-1) + text, text + strings.Repeat("v", valueMost-1)} {
			checkValueText(t, value, right)
		}
		checkValueText(t, strings.Repeat("v", valueMost)+text, false)
	}
}

// manySingles and manyColumns have names of their own.
func manySingles(count int) []impl.Item {
	items := []impl.Item{}
	for i := range count {
		items = append(items, single("s"+strconv.Itoa(i), "1"))
	}
	return items
}

func manyColumns(count, rows int) []impl.Item {
	items := []impl.Item{}
	for i := range count {
		items = append(items, column("c"+strconv.Itoa(i), slices.Repeat([]string{"v"}, rows)...))
	}
	return items
}

func onesOf(count int) []int64 { return filled(count, 1) }

func TestDataTakesMaxItemsAndNoMore(t *testing.T) {
	for _, c := range []struct {
		why   string
		make  func(items int) impl.Data
		cells int
	}{
		{"single", func(n int) impl.Data { return block("d", nil, manySingles(n)...) }, 1},
		{"a loop", func(n int) impl.Data { return block("d", []int64{int64(n)}, manyColumns(n, 0)...) }, 0},
		{"a loop with rows", func(n int) impl.Data { return block("d", []int64{int64(n)}, manyColumns(n, 3)...) }, 3},
		{"loops", func(n int) impl.Data { return block("d", onesOf(n), manyColumns(n, 2)...) }, 2},
		{"both", func(n int) impl.Data {
			return block("d", []int64{int64(n - 150)}, append(manySingles(150), manyColumns(n-150, 1)...)...)
		}, 1},
	} {
		for _, n := range []int{itemsMost - 1, itemsMost, itemsMost + 1} {
			d := c.make(n)
			if got := checkData(t, d); got != (n <= itemsMost) || len(d.Items) != n {
				t.Error(c.why, n, got)
			}
		}
	}
}

func TestDataTakesMaxCellsAndNoMore(t *testing.T) {
	for why, make := range map[string]func(cells int) impl.Data{
		"a loop of one": func(n int) impl.Data { return block("d", []int64{1}, manyColumns(1, n)...) },
		"a loop and single": func(n int) impl.Data {
			return block("d", []int64{1}, append(manySingles(100), manyColumns(1, n-100)...)...)
		},
		"single, the last": func(n int) impl.Data {
			return block("d", []int64{4}, append(manySingles(n-3900), manyColumns(4, 975)...)...)
		},
		"the last loop": func(n int) impl.Data {
			return block("d", []int64{1, 1}, append(manyColumns(1, 2000), column("x", slices.Repeat([]string{""}, n-2000)...))...)
		},
		"the first loop": func(n int) impl.Data {
			return block("d", []int64{1, 1}, append(manyColumns(1, n-2000), column("x", slices.Repeat([]string{" "}, 2000)...))...)
		},
		"a wide loop beside": func(n int) impl.Data {
			return block("d", []int64{100, 1}, append(manyColumns(100, 30), column("x", slices.Repeat([]string{"v"}, n-3000)...))...)
		},
	} {
		for _, n := range []int{cellsMost - 1, cellsMost, cellsMost + 1, cellsMost + 50} {
			if got := checkData(t, make(n)); got != (n <= cellsMost) {
				t.Error(why, n, got)
			}
		}
	}
	wide := block("d", []int64{itemsMost}, manyColumns(itemsMost, cellsMost/itemsMost)...)
	if !checkData(t, wide) || checkData(t, block("d", []int64{itemsMost}, manyColumns(itemsMost, cellsMost/itemsMost+1)...)) {
		t.Error("a loop of MaxItems items")
	}
}

func TestRowsAndLoopsThatAreNone(t *testing.T) {
	numbers := []int64{math.MinInt64, math.MinInt64 + 1, -1000, -3, -2, -1, 0, 1, 2, 3, 4, 200, 201, 1 << 32, 1<<32 + 1, 1<<32 + 2, math.MaxInt64 - 1, math.MaxInt64}
	for _, n := range numbers {
		for _, m := range append(numbers, n) {
			d := block("d", []int64{2}, single("a", "1"), column("x", "1", "2"), column("y", "3", "4"))
			d.Items[1].Rows, d.Items[2].Rows = n, m
			if got := checkData(t, d); got != (n == 2 && m == 2) {
				t.Error(n, m, got)
			}
			d = block("d", []int64{2}, column("x"), column("y"))
			d.Items[0].Rows, d.Items[1].Rows = n, m
			if got := checkData(t, d); got != (n == 0 && m == 0) {
				t.Error(n, m, got)
			}
			d = block("d", []int64{n, m}, column("x", "1"), column("y", "1"), column("z", "1"))
			if got := checkData(t, d); got != (n > 0 && m > 0 && n < 3 && n+m == 3) {
				t.Error(n, m, got)
			}
		}
		d := block("d", nil, single("a", "1"))
		d.Items[0].Rows = n
		if got := checkData(t, d); got != (n == -1) {
			t.Error(n, got)
		}
		d.Loops = []int64{1}
		if got := checkData(t, d); got != (n == 1) {
			t.Error(n, got)
		}
	}
	// The sums of these are just the items, where they go past all bits.
	for _, loops := range [][]int64{{math.MaxInt64, math.MaxInt64, 4}, {math.MinInt64, math.MinInt64, 2}, {math.MaxInt64, math.MinInt64, 3}, {1, math.MaxInt64, math.MaxInt64, 3}, {1 << 62, 1 << 62, 1 << 62, 1 << 62, 2}} {
		if checkData(t, block("d", loops, column("x", "1"), column("y", "1"))) {
			t.Error(loops)
		}
	}
	if impl.DataOk(block("d", onesOf(1000000), manyColumns(5, 1)...)) {
		t.Error("a million loops")
	}
}

func TestShowDataByHand(t *testing.T) {
	if got := impl.ShowData(handData()); got != handText {
		t.Errorf("%q", got)
	}
	for value, word := range map[string]string{
		"": "''", " ": "' '", "a b": "'a b'", " a": "' a'", "a ": "'a '", "_": "'_'", "_x": "'_x'", "#": "'#'", "#x": "'#x'",
		"loop_": "'loop_'", "data_": "'data_'", "data_x": "'data_x'", "data_ x": "'data_ x'", "loop_ ": "'loop_ '",
		"loop": "loop", "loop_1": "loop_1", "loop__": "loop__", "Loop_": "Loop_", "xloop_": "xloop_", "data": "data", "Data_": "Data_", "xdata_": "xdata_", "xdata_x": "xdata_x",
		"a#": "a#", "a#b": "a#b", "a_": "a_", "a_b": "a_b", "-": "-", "\"": "\"", "\"a\"": "\"a\"", "~": "~", "!": "!", "7": "7", ";": ";",
	} {
		for _, c := range []struct {
			d    impl.Data
			want string
		}{
			{block("d", nil, single("a", value)), "data_d\n_a " + word + "\n"},
			{block("d", []int64{1}, column("x", value)), "data_d\nloop_\n_x\n" + word + "\n"},
			{block("d", []int64{2}, column("x", value, "1"), column("y", "2", value)), "data_d\nloop_\n_x\n_y\n" + word + " 2\n1 " + word + "\n"},
		} {
			if got := impl.ShowData(c.d); got != c.want {
				t.Errorf("%q %q", value, got)
			}
			checkShown(t, c.d)
		}
	}
	for _, c := range []struct {
		d    impl.Data
		want string
	}{
		{block("d", nil), "data_d\n"},
		{block("d", nil, single("b", "1"), single("a", "2")), "data_d\n_b 1\n_a 2\n"},
		{block("d", []int64{1, 2}, column("x"), column("z"), column("y")), "data_d\nloop_\n_x\nloop_\n_z\n_y\n"},
		{block("d", []int64{1, 1}, single("d", "d"), column("x", "1", "2"), column("y", "3")), "data_d\n_d d\nloop_\n_x\n1\n2\nloop_\n_y\n3\n"},
	} {
		if got := impl.ShowData(c.d); got != c.want {
			t.Errorf("%q", got)
		}
	}
}

// checkShown: what is shown is read as the same, if it is no longer than a text
// may be.
func checkShown(t *testing.T, d impl.Data) bool {
	t.Helper()
	s := impl.ShowData(d)
	got, f := impl.ReadData(s)
	if len(s) > dataMost {
		if f != fault(faultLong, 0) || !isZeroData(got) {
			t.Errorf("%d bytes: %.200q %v", len(s), told(got), f)
		}
		return false
	}
	if f != (impl.DataFault{}) || !sameData(got, d) {
		t.Errorf("%.200q %.200q %v", s, told(got), f)
	}
	return true
}

func TestShownIsRead(t *testing.T) {
	var d dice
	for _, data := range append(d.blocks(3000), handData(), block("d", nil)) {
		if !checkData(t, data) || !checkShown(t, data) {
			t.Fatalf("%q", told(data))
		}
	}
	kinds := [2]int{}
	for range 60 {
		data := d.block(int(d.between(0, 60)), int(d.between(0, 12)), 9, 60)
		if !checkData(t, data) {
			t.Fatalf("%.200q", told(data))
		}
		if checkShown(t, data) {
			kinds[0]++
		} else {
			kinds[1]++
		}
	}
	if min(kinds[0], kinds[1]) < 5 {
		t.Error("too few of a kind:", kinds)
	}
}

// A text of just MaxData bytes is read, and one of a byte more is not.
func TestShownOfJustMaxData(t *testing.T) {
	for more := range 3 {
		values := slices.Repeat([]string{strings.Repeat("v", 99)}, 199)
		d := block("d", []int64{1}, append(manySingles(1), column("x", values...))...)
		ahead := len(impl.ShowData(d))
		d.Items[0].Values[0] = strings.Repeat("w", dataMost-ahead+more)
		if got := checkShown(t, d); !impl.DataOk(d) || got != (more < 2) || len(impl.ShowData(d)) != dataMost-1+more {
			t.Error(more, got, len(impl.ShowData(d)))
		}
	}
}

func checkRead(t *testing.T, s string) impl.DataFault {
	t.Helper()
	want, wantFault := readByRule(s)
	got, f := impl.ReadData(s)
	if f != wantFault || !sameData(got, want) {
		t.Errorf("%.300q %.200q %v, by the rule %v", s, told(got), f, wantFault)
	}
	if f == (impl.DataFault{}) != impl.DataOk(got) {
		t.Errorf("%.300q %.200q", s, told(got))
	}
	return f
}

func TestReadDataByHand(t *testing.T) {
	for _, s := range []string{"#\ndata_a#b", "data_a _x#1 1"} { // a # within a token is of it
		if got, f := impl.ReadData(s); f.Code == 0 || !isZeroData(got) {
			t.Errorf("%q %q %v", s, told(got), f)
		}
	}
	for _, c := range []struct {
		s    string
		want impl.Data
	}{
		{"data_a", block("a", nil)},
		{"data_a\n", block("a", nil)},
		{" \n data_a \n\n ", block("a", nil)},
		{"data_data_", block("data_", nil)},
		{"data_loop_", block("loop_", nil)},
		{"# data_b\n#\n  # \x00\xff\t'\ndata_a # it's", block("a", nil)},
		{"data_a\n#", block("a", nil)},
		{"data_a #\n# #\n\n#x", block("a", nil)},
		{"data_a _x 1", block("a", nil, single("x", "1"))},
		{"data_a _x\n1", block("a", nil, single("x", "1"))},
		{"data_a _x # 2\n1", block("a", nil, single("x", "1"))},
		{"data_a _x 1#2", block("a", nil, single("x", "1#2"))},
		{"data_a _x 1# _y 2", block("a", nil, single("x", "1#"), single("y", "2"))},
		{"data_a _x '#'", block("a", nil, single("x", "#"))},
		{"data_a _x '# y'\n", block("a", nil, single("x", "# y"))},
		{"data_a _x ''", block("a", nil, single("x", ""))},
		{"data_a _x ' '", block("a", nil, single("x", " "))},
		{"data_a _x '_y' _y 'loop_' _z 'data_b'", block("a", nil, single("x", "_y"), single("y", "loop_"), single("z", "data_b"))},
		{"data_a _x '1' _y \"it\"", block("a", nil, single("x", "1"), single("y", "\"it\""))},
		{"data_a _x loop_1 _y loop _z xdata_", block("a", nil, single("x", "loop_1"), single("y", "loop"), single("z", "xdata_"))},
		{"data_a _loop_ 1 _data_b 2", block("a", nil, single("loop_", "1"), single("data_b", "2"))},
		{"data_a _a a", block("a", nil, single("a", "a"))},
		{"data_a _a 1 _A 2", block("a", nil, single("a", "1"), single("A", "2"))},
		{"data_a loop_ _x", block("a", []int64{1}, column("x"))},
		{"data_a loop_ _x _y", block("a", []int64{2}, column("x"), column("y"))},
		{"data_a loop_ _x loop_ _y", block("a", []int64{1, 1}, column("x"), column("y"))},
		{"data_a loop_ _x 1", block("a", []int64{1}, column("x", "1"))},
		{"data_a loop_ _x 1 2 3", block("a", []int64{1}, column("x", "1", "2", "3"))},
		{"data_a loop_ _x _y 1 2 3 4", block("a", []int64{2}, column("x", "1", "3"), column("y", "2", "4"))},
		{"data_a loop_ _x _y 1\n2 3\n\n4", block("a", []int64{2}, column("x", "1", "3"), column("y", "2", "4"))},
		{"data_a\nloop_\n_x # of\n_y # both\n1 # _z\n'2 '\n3 4 5#\n''", block("a", []int64{2}, column("x", "1", "3", "5#"), column("y", "2 ", "4", ""))},
		{"data_a loop_ _x '_y' 'loop_'", block("a", []int64{1}, column("x", "_y", "loop_"))},
		{"data_a loop_ _x 1 loop_ _y 2", block("a", []int64{1, 1}, column("x", "1"), column("y", "2"))},
		{"data_a loop_ _x _y 2 3", block("a", []int64{2}, column("x", "2"), column("y", "3"))},
		{"data_a loop_ _x 1 _y 2", block("a", []int64{1}, single("y", "2"), column("x", "1"))},
		{"data_a _z 0 loop_ _x 1 _y 2 loop_ _w", block("a", []int64{1, 1}, single("z", "0"), single("y", "2"), column("x", "1"), column("w"))},
		{"data_a loop_ _x _y 1 2 _z 3 loop_ _u _v 4 5 6 7 _w 8", block("a", []int64{2, 2}, single("z", "3"), single("w", "8"), column("x", "1"), column("y", "2"), column("u", "4", "6"), column("v", "5", "7"))},
		{handText, handData()},
	} {
		if got, f := impl.ReadData(c.s); f != (impl.DataFault{}) || !sameData(got, c.want) {
			t.Errorf("%q %q %v", c.s, told(got), f)
		}
		checkRead(t, c.s)
	}
}

// Whatever stands between the tokens, and in whatever order items and loops
// stand, it is the same data, and its text is read as the same again.
func TestReadDataOfTexts(t *testing.T) {
	var d dice
	for _, data := range d.blocks(2500) {
		s := d.fileText(data)
		if len(s) > dataMost {
			continue
		}
		got, f := impl.ReadData(s)
		if f != (impl.DataFault{}) || !sameData(got, data) {
			t.Fatalf("%q %q %v", s, told(got), f)
		}
		checkRead(t, s)
		if impl.ShowData(got) != impl.ShowData(data) || !checkShown(t, got) {
			t.Fatalf("%q", s)
		}
	}
}

func TestReadDataByRule(t *testing.T) {
	var d dice
	kinds := map[int64]int{}
	for _, data := range d.blocks(25000) {
		s := d.anyFile(data)
		if f := checkRead(t, s); f.Code == 0 {
			got, _ := impl.ReadData(s)
			checkShown(t, got)
			kinds[0]++
		} else {
			kinds[f.Code]++
		}
	}
	for _, code := range []int64{0, faultByte, faultHead, faultToken, faultRow} {
		if kinds[code] < 300 {
			t.Error("too few of a kind:", kinds)
		}
	}
}

// Each beginning of a text, and each text with one byte less, is read as its
// rule says.
func TestReadDataOfBeginnings(t *testing.T) {
	var d dice
	for _, s := range []string{handText, "# c\n data_quartz _a\n'4.9 A' # more\nloop_ _x _y 1 'loop_' '' z loop_ _w _v _u 1 2 3", d.fileText(handData()), d.fileText(handData())} {
		for end := range len(s) + 1 {
			checkRead(t, s[:end])
			checkRead(t, s[end:])
			if end < len(s) {
				checkRead(t, s[:end]+s[end+1:])
				checkRead(t, s[:end]+"'"+s[end:])
				checkRead(t, s[:end]+"'"+s[end+1:])
			}
		}
	}
}

// A faultyText is what is told of a text, whatever stands behind it.
type faultyText struct {
	s    string
	code int
	at   int
}

// faultyParts may stand where an item may; At counts from the part's beginning.
func faultyParts() []faultyText {
	long, name := strings.Repeat("v", valueMost+1), strings.Repeat("n", nameMost+2)
	return []faultyText{
		{"7", faultToken, 0}, {"'7'", faultToken, 0}, {"''", faultToken, 0}, {"it's", faultToken, 0}, {"data_b", faultToken, 0}, {"data_", faultToken, 0}, {"'_k' 1", faultToken, 0}, {"'loop_' _k", faultToken, 0}, {"loop_1 _k", faultToken, 0}, {"loop_'", faultToken, 0},
		{"_ 1", faultToken, 0}, {"_9 1", faultToken, 0}, {"__k 1", faultToken, 0}, {"_k-l 1", faultToken, 0}, {"_k' 1", faultToken, 0}, {"_k'l' 1", faultToken, 0}, {"_" + name + " 1", faultToken, 0}, {long, faultToken, 0},
		{"_k " + long, faultToken, 3}, {"_k '" + long + "'", faultToken, 3}, {"_k it's", faultToken, 3}, {"_k a'b'", faultToken, 3}, {"_k _l 1", faultToken, 3}, {"_k _9 1", faultToken, 3}, {"_k loop_ _l 1", faultToken, 3}, {"_k data_b", faultToken, 3}, {"_k data_", faultToken, 3}, {"_k _", faultToken, 3},
		{"_k 1 2", faultToken, 5}, {"_k 1 _k 2", faultToken, 5}, {"_k 1 loop_ _k 2", faultToken, 11}, {"_k 1 loop_ _l _k 2 3", faultToken, 14}, {"_r 5", faultToken, 0}, {"_s 5", faultToken, 0}, {"loop_ _t 5", faultToken, 6}, {"_k 1 _l 2 _m 3 _l 4", faultToken, 15},
		{"loop_ 1", faultToken, 6}, {"loop_ '_k' 1", faultToken, 6}, {"loop_ loop_ _k", faultToken, 6}, {"loop_ data_b", faultToken, 6}, {"loop_ it's", faultToken, 6}, {"loop_ _9 1", faultToken, 6}, {"loop_ _ 1", faultToken, 6}, {"loop_\n\n# _k\n''", faultToken, 12},
		{"loop_ _k _k 1 2", faultToken, 9}, {"loop_ _k 1 _k 2", faultToken, 11}, {"loop_ _k 1 loop_ _k 2", faultToken, 17}, {"loop_ _k loop_ _k", faultToken, 15}, {"loop_ _k _9 1 2", faultToken, 9}, {"loop_ _k it's", faultToken, 9}, {"loop_ _k data_b", faultToken, 9}, {"loop_ _k 1 data_b", faultToken, 11}, {"loop_ _k 1 it's", faultToken, 11}, {"loop_ _k " + long, faultToken, 9}, {"loop_ _k _l 1 " + long, faultToken, 14}, {"loop_ _k _l 1 '" + long + "'", faultToken, 14}, {"loop_ _k loop_ loop_", faultToken, 15},
		{"loop_ _k _l 1 _m 2", faultRow, 14}, {"loop_ _k _l 1 2 3 _m 2", faultRow, 18}, {"loop_ _k _l 1 loop_ _m 2", faultRow, 14}, {"loop_ _k _l _m 1 2 3 4 5\n\n#\nloop_ _n", faultRow, 28}, {"loop_ _k _l '' _m 2", faultRow, 15},
		{"\t", faultByte, 0}, {"\x00", faultByte, 0}, {"7\x7f", faultByte, 1}, {"_k\t1", faultByte, 2}, {"_k \x1f", faultByte, 3}, {"_k 1\r", faultByte, 4}, {"_k é", faultByte, 3}, {"data_b\x80", faultByte, 6}, {"it's\t", faultByte, 4}, {"loop_\x0b", faultByte, 5}, {long + "\xff", faultByte, len(long)}, {"_9\xff 1", faultByte, 2}, {"_r\x01 5", faultByte, 2},
		{"_k 'q\n'", faultByte, 5}, {"_k '\n'", faultByte, 4}, {"_k 'q\tr'", faultByte, 5}, {"_k 'q'r", faultByte, 6}, {"_k 'q''", faultByte, 6}, {"_k '''", faultByte, 5}, {"_k ''''", faultByte, 5}, {"_k 'q'#", faultByte, 6}, {"_k 'q'\t", faultByte, 6}, {"'q'_k 1", faultByte, 3}, {"'q\xff'", faultByte, 2}, {"_k '" + long + "\n", faultByte, 4 + len(long)}, {"_k '" + long + "'x", faultByte, 5 + len(long)},
		{"loop_ _k _l 1 _m\t2", faultByte, 16}, {"loop_ _k _l 1 \t", faultByte, 14}, {"loop_ _k _l 1 'q\n'", faultByte, 16}, {"loop_ _k _l 1 'q'r", faultByte, 17}, {"loop_ _k _l 1 it's\x00", faultByte, 18},
	}
}

// faultyEnds are faults because nothing stands behind.
func faultyEnds() []faultyText {
	return []faultyText{
		{"_k", faultToken, 2}, {"_k ", faultToken, 3}, {"_k # 1", faultToken, 6}, {"_k\n\n", faultToken, 4}, {"_k 1 _l", faultToken, 7},
		{"loop_", faultToken, 5}, {"loop_ \n", faultToken, 7}, {"loop_ # _k", faultToken, 10}, {"loop_ _k loop_", faultToken, 14}, {"loop_ _k 1 loop_", faultToken, 16},
		{"loop_ _k _l 1", faultRow, 13}, {"loop_ _k _l 1 \n ", faultRow, 16}, {"loop_ _k _l 1 # 2", faultRow, 17}, {"loop_ _k _l _m 1 2 3 4 5", faultRow, 24}, {"loop_ _k _l 1 2 ''", faultRow, 18},
		{"_k '", faultByte, 4}, {"_k 'q", faultByte, 5}, {"_k 'q ", faultByte, 6}, {"'", faultByte, 1}, {"_k 'q # ", faultByte, 8}, {"loop_ _k _l 1 '2", faultByte, 16},
	}
}

// faultyHeads are told of the text's beginning.
func faultyHeads() []faultyText {
	name := strings.Repeat("n", nameMost+2)
	return []faultyText{
		{"data_", faultHead, 0}, {"data", faultHead, 0}, {"Data_a", faultHead, 0}, {"DATA_a", faultHead, 0}, {"data_9", faultHead, 0}, {"data__a", faultHead, 0}, {"data_a-b", faultHead, 0}, {"data_a#", faultHead, 0}, {"data_a'", faultHead, 0}, {"data_" + name, faultHead, 0}, {"'data_a'", faultHead, 0}, {"_x 1", faultHead, 0}, {"loop_ _x", faultHead, 0}, {"a", faultHead, 0}, {"''", faultHead, 0}, {"_", faultHead, 0}, {"it's", faultHead, 0}, {"data_ a", faultHead, 0}, {"xdata_a", faultHead, 0}, {strings.Repeat("v", 500), faultHead, 0},
		{"\n # x\n  data_", faultHead, 8}, {"  7", faultHead, 2},
		{"\t", faultByte, 0}, {" \x00data_a", faultByte, 1}, {"data_a\t", faultByte, 6}, {"data_\x80", faultByte, 5}, {"'data_a'b", faultByte, 8}, {"7\r\n", faultByte, 1}, {"\xef\xbb\xbfdata_a", faultByte, 0},
	}
}

func checkFault(t *testing.T, s string, want impl.DataFault) {
	t.Helper()
	if got, f := impl.ReadData(s); f != want || !isZeroData(got) {
		t.Errorf("%.300q %.200q %v, not %v", s, told(got), f, want)
	}
	checkRead(t, s)
}

const rightAhead = "data_a loop_ _s _t 1 2 3 4 _r 1\n"

func TestReadDataFaults(t *testing.T) {
	for _, ahead := range []string{rightAhead, "# x\n" + rightAhead + "_w 'x y' # \xff\n ", "data_a loop_ _t _u _s _r 1 2 3 '4' _w ''\n"} {
		for _, part := range append(faultyParts(), faultyEnds()...) {
			checkFault(t, ahead+part.s, fault(part.code, len(ahead)+part.at))
		}
	}
	for _, s := range []string{"", " ", "\n", " \n \n", "#", "# data_a", "\n#data_a\n"} {
		checkFault(t, s, fault(faultHead, len(s)))
	}
	checkFault(t, "'data_a", fault(faultByte, 7))
	// A loop ends at the first token that is no value's: that its last row is not
	// whole is told ahead of what that token is.
	for _, behind := range []string{"it's", "data_b", "_9 2", "_ 2", "_s 2", "_k 2"} {
		checkFault(t, rightAhead+"loop_ _k _l 1 "+behind, fault(faultRow, len(rightAhead)+14))
	}
	for _, head := range faultyHeads() {
		want := fault(head.code, head.at)
		checkFault(t, head.s, want)
		checkFault(t, head.s+" _x 1", want)
		checkFault(t, head.s+"\ndata_a _x 1 \t", want)
	}
}

// Where two faults stand in one text, the first from the left is told.
func TestReadDataTellsTheFirstFault(t *testing.T) {
	for _, first := range faultyParts() {
		for _, second := range append(faultyParts(), faultyEnds()...) {
			checkFault(t, rightAhead+first.s+"\n"+second.s, fault(first.code, len(rightAhead)+first.at))
			checkFault(t, rightAhead+first.s+"\n_q 1\n"+second.s, fault(first.code, len(rightAhead)+first.at))
		}
	}
	for _, head := range faultyHeads() {
		for _, second := range append(faultyParts(), faultyEnds()...) {
			checkFault(t, head.s+"\n"+second.s, fault(head.code, head.at))
		}
	}
}

// A byte that may stand nowhere is told in its place, but for remarks.
func TestReadDataOfBytesInEachPlace(t *testing.T) {
	const remark = "# of bytes it's _x loop_"
	const s = " \n" + remark + "\ndata_quartz _a\n'4.9 A' " + remark + "\nloop_ _x _y 1 'loop_' '' z#z\n\n" + remark + "\n_b x \n" + remark
	want, f := impl.ReadData(s)
	if f != (impl.DataFault{}) {
		t.Fatal(f)
	}
	within := func(at int) bool { // a remark, behind its #
		line := s[:at]
		line = line[strings.LastIndex(line, "\n")+1:]
		return strings.HasPrefix(line, "#") || strings.Contains(line, " #")
	}
	remarks := 0
	for at := range len(s) + 1 {
		for _, b := range []byte{0, 9, 13, 31, 127, 128, 255} {
			put := s[:at] + string([]byte{b}) + s[at:]
			if within(at) {
				remarks++
				if got, f := impl.ReadData(put); f != (impl.DataFault{}) || !sameData(got, want) {
					t.Errorf("%q %v", put, f)
				}
			} else {
				checkFault(t, put, fault(faultByte, at))
			}
			checkRead(t, put)
			if at == len(s) || within(at) && s[at] == '\n' {
				continue
			}
			changed := s[:at] + string([]byte{b}) + s[at+1:]
			if within(at) {
				if got, f := impl.ReadData(changed); f != (impl.DataFault{}) || !sameData(got, want) {
					t.Errorf("%q %v", changed, f)
				}
			} else {
				checkFault(t, changed, fault(faultByte, at))
			}
		}
	}
	if remarks < 500 {
		t.Error("too few in remarks:", remarks)
	}
}

// Each byte there is, in each place of some texts.
func TestReadDataOfEachByte(t *testing.T) {
	for _, s := range []string{"data_a _x 'q r' loop_ _y _z 1 '' # w\n", "#\ndata_a _x it"} {
		for at := range len(s) + 1 {
			for b := range 256 {
				text := string([]byte{byte(b)})
				checkRead(t, s[:at]+text+s[at:])
				if at < len(s) {
					checkRead(t, s[:at]+text+s[at+1:])
				}
			}
		}
	}
}

func TestReadDataNames(t *testing.T) {
	for _, c := range []struct {
		length int
		right  bool
	}{{0, false}, {1, true}, {2, true}, {nameMost, true}, {nameMost + 1, true}, {nameMost + 2, false}, {500, false}} {
		name := strings.Repeat("n", c.length)
		for _, part := range []struct {
			s, behind string
			code, at  int
		}{
			{"data_" + name, " _x 1", faultHead, 0},
			{"data_a _" + name, " 1", faultToken, 7},
			{"data_a loop_ _" + name, " 1", faultToken, 13},
			{"data_a loop_ _x _" + name, " 1 2", faultToken, 16},
		} {
			if c.right {
				if f := checkRead(t, part.s+part.behind); f != (impl.DataFault{}) {
					t.Error(c.length, part.s, f)
				}
			} else {
				checkFault(t, part.s+part.behind, fault(part.code, part.at))
			}
		}
	}
	for b := range 256 {
		for _, name := range []string{string([]byte{byte(b)}), "n" + string([]byte{byte(b)})} {
			checkRead(t, "data_"+name)
			checkRead(t, "data_a _"+name+" 1")
			checkRead(t, "data_a loop_ _x _"+name+" 1 2")
		}
	}
}

func TestReadDataValues(t *testing.T) {
	for _, n := range []int{1, valueMost - 1, valueMost, valueMost + 1, valueMost + 2, 5000} {
		for _, value := range []string{strings.Repeat("v", n), strings.Repeat("v", n-1) + "#", strings.Repeat("v", n-1) + "_"} {
			for _, ahead := range []string{"data_a _x ", "data_a loop_ _x ", "data_a loop_ _x _y 1 ", "data_a loop_ _x 1 2 ", "data_a loop_ _x _y 1 2 3 "} {
				for _, word := range []string{wordByRule(value), "'" + value + "'"} {
					for _, behind := range []string{"", " ", "\n_z 1", " # x", " loop_ _z"} {
						s := ahead + word + behind
						if n > valueMost {
							checkFault(t, s, fault(faultToken, len(ahead)))
							continue
						}
						got, f := impl.ReadData(s)
						if f != (impl.DataFault{}) || !slices.Contains(textsOf(got), value) {
							t.Errorf("%q %v", s, f)
						}
						checkRead(t, s)
					}
				}
			}
		}
	}
	for _, value := range oddValues() {
		got, f := impl.ReadData("data_a _x '" + value + "' loop_ _y '" + value + "'")
		if f != (impl.DataFault{}) || !sameData(got, block("a", []int64{1}, single("x", value), column("y", value))) {
			t.Errorf("%q %q %v", value, told(got), f)
		}
	}
}

// itemsText: so many items, the last of each kind.
func itemsText(singles, columns int) string {
	out := "data_a\n"
	for i := range singles {
		out += "_s" + strconv.Itoa(i) + " 1\n"
	}
	if columns > 0 {
		out += "loop_\n"
	}
	for i := range columns {
		out += "_c" + strconv.Itoa(i) + "\n"
	}
	return out
}

func TestReadDataTakesMaxItemsAndNoMore(t *testing.T) {
	for _, singles := range []int{0, 1, 100, itemsMost - 1, itemsMost} {
		full := itemsText(singles, itemsMost-singles)
		got, f := impl.ReadData(full)
		if f != (impl.DataFault{}) || len(got.Items) != itemsMost || !impl.DataOk(got) {
			t.Error(singles, f)
		}
		checkRead(t, full)
		want := fault(faultMany, len(full))
		if singles < itemsMost {
			checkFault(t, full+"_one", want)
			checkFault(t, full+"_one 1", want)
			full += strings.Repeat("1 ", itemsMost-singles)
			want = fault(faultMany, len(full))
		}
		for _, more := range []string{"_one 1", "_one", "_one\n", "_one it's", "_one _two", "_one 1 \t"} {
			checkFault(t, full+more, want)
			checkFault(t, full+" # x\n"+more, fault(faultMany, len(full)+5))
		}
		checkFault(t, full+"loop_ _one", fault(faultMany, len(full)+6))
		checkFault(t, full+"loop_ _one _two 1", fault(faultMany, len(full)+6))
		checkFault(t, full+"_one\t1", fault(faultByte, len(full)+4))
		checkFault(t, full+"loop_", fault(faultToken, len(full)+5))
		checkFault(t, full+"loop_ 1", fault(faultToken, len(full)+6))
		// What is no name, or stands twice, is told ahead of there being too many.
		checkFault(t, full+"_9 1", fault(faultToken, len(full)))
		name := "_s0"
		if singles == 0 {
			name = "_c0"
		}
		checkFault(t, full+name+" 1", fault(faultToken, len(full)))
	}
	two := itemsText(3, itemsMost-4) + strings.Repeat("1 ", itemsMost-4)
	checkFault(t, two+"loop_ _k _l 5", fault(faultMany, len(two)+9))
	checkFault(t, two+"loop_ _k 5 _l 5", fault(faultMany, len(two)+11))
	checkFault(t, two+"_k 5 _l 5", fault(faultMany, len(two)+5))
	cut := two + "loop_ _k 5 "
	if f := checkRead(t, cut); f != (impl.DataFault{}) {
		t.Error(f)
	}
	// A row that is not whole is told ahead of the item behind it.
	cut = itemsText(1, itemsMost-1) + "1 2 "
	checkFault(t, cut+"_k 1", fault(faultRow, len(cut)))
}

func TestReadDataTakesMaxCellsAndNoMore(t *testing.T) {
	row := strings.Repeat("1 ", 100)
	for _, c := range []struct {
		why, ahead string
		cells      int
	}{
		{"a loop", "data_a loop_ _x ", 0},
		{"a loop of four", "data_a loop_ _x _y _z _w ", 0},
		{"a loop and single", "data_a _r 1 _s 2 _t '' _u 4 loop_ _x _y ", 4},
		{"two loops", "data_a loop_ _k _l " + row + " loop_ _x _y _z _w _v ", 100},
	} {
		full := c.ahead + strings.Repeat("'' ", cellsMost-c.cells)
		got, f := impl.ReadData(full)
		if f != (impl.DataFault{}) || !impl.DataOk(got) || len(got.Items[len(got.Items)-1].Values) == 0 {
			t.Error(c.why, f)
		}
		checkRead(t, full)
		want := fault(faultMany, len(full))
		checkFault(t, full+"2", want)
		checkFault(t, full+"'2 3' 4 5", want)
		checkFault(t, full+"# x\n2 _q 1", fault(faultMany, len(full)+4))
		checkFault(t, full+"_q 2", fault(faultMany, len(full)+3))
		checkFault(t, full+"_q '2' \t", fault(faultMany, len(full)+3))
		checkFault(t, full+"loop_ _q 2", fault(faultMany, len(full)+9))
		checkFault(t, full+"loop_ _p _q 2", fault(faultMany, len(full)+12))
		checkFault(t, full+"2\t", fault(faultByte, len(full)+1))
		checkFault(t, full+"'2", fault(faultByte, len(full)+2))
		checkFault(t, full+"it's", fault(faultToken, len(full)))
		checkFault(t, full+"_q", fault(faultToken, len(full)+2))
		// A value that is too long is told ahead of there being too many.
		checkFault(t, full+strings.Repeat("v", valueMost+1), fault(faultToken, len(full)))
		if got, f := impl.ReadData(full + "loop_ _q # no values"); f != (impl.DataFault{}) || len(got.Items[len(got.Items)-1].Values) != 0 {
			t.Error(c.why, f)
		}
	}
	cut := "data_a loop_ _x _y _z " + strings.Repeat("1 ", cellsMost)
	checkFault(t, cut, fault(faultRow, len(cut)))
	checkFault(t, cut+"1 1", fault(faultMany, len(cut)))
	checkFault(t, cut+"_q 1", fault(faultRow, len(cut)))
}

func TestReadDataTakesMaxDataAndNoMore(t *testing.T) {
	for _, s := range []string{"data_a _x 1", handText, rightAhead} {
		for _, fill := range []string{" ", "\n", "#"} {
			just := s + "\n" + strings.Repeat(fill, dataMost-len(s)-1)
			if f := checkRead(t, just); f != (impl.DataFault{}) || len(just) != dataMost {
				t.Error(s, f)
			}
			checkFault(t, just+fill, fault(faultLong, 0))
			ahead := strings.Repeat(fill, dataMost-len(s)-1) + "\n" + s
			if f := checkRead(t, ahead); f != (impl.DataFault{}) {
				t.Error(s, f)
			}
			checkFault(t, fill+ahead, fault(faultLong, 0))
		}
	}
	for _, s := range []string{"", "\t", "7", "'", "data_a 7", "data_a _x it's"} {
		just := s + strings.Repeat(" ", dataMost-len(s))
		if f := checkRead(t, just); f.Code == 0 || f.Code == faultLong {
			t.Error(s, f)
		}
		checkFault(t, just+" ", fault(faultLong, 0))
		checkFault(t, just+just, fault(faultLong, 0))
	}
	checkFault(t, strings.Repeat("\x00", 1<<20), fault(faultLong, 0))
	long := strings.Repeat("v", dataMost)
	checkFault(t, long, fault(faultHead, 0))
	checkFault(t, long+"v", fault(faultLong, 0))
	checkFault(t, "'"+long[1:], fault(faultByte, dataMost))
	checkFault(t, "data_a "+long[7:], fault(faultToken, 7))
}

func TestColumnByHand(t *testing.T) {
	d := handData()
	for name, want := range map[string][]string{"a": {"4.9 A"}, "b": {"x"}, "x": {"1", ""}, "y": {"loop_", "z"}, "w": {}} {
		if got, ok := impl.Column(d, name); !ok || !slices.Equal(got, want) {
			t.Errorf("%q %q %t", name, got, ok)
		}
	}
	for _, name := range append(wrongNames(), "quartz", "A", "aa", "_x", "z", "loop_", "4.9 A") {
		if got, ok := impl.Column(d, name); ok || len(got) != 0 {
			t.Errorf("%q %q %t", name, got, ok)
		}
	}
	for why, d := range wrongData() {
		for _, name := range []string{"a", "x", "y", "", "d"} {
			if got, ok := impl.Column(d, name); ok || len(got) != 0 {
				t.Errorf("%s %q %q %t", why, name, got, ok)
			}
		}
	}
}

func TestColumnOfEachItem(t *testing.T) {
	var d dice
	for _, data := range d.blocks(500) {
		for _, item := range data.Items {
			if got, ok := impl.Column(data, item.Name); !ok || !slices.Equal(got, item.Values) {
				t.Errorf("%q %q %q", told(data), item.Name, got)
			}
		}
		for _, name := range []string{d.fileName(), data.Name, ""} {
			want := slices.ContainsFunc(data.Items, func(item impl.Item) bool { return item.Name == name })
			if got, ok := impl.Column(data, name); ok != want || !ok && len(got) != 0 {
				t.Errorf("%q %q %q", told(data), name, got)
			}
		}
	}
}

// checkMend: what is told is as trying every beginning tells it, and is read.
func checkMend(t *testing.T, s string) string {
	t.Helper()
	got := impl.Mend(s)
	if got != mendByRule(s) {
		t.Errorf("%.1100q %q, by the rule %q", s, got, mendByRule(s))
	}
	d, f := impl.ReadData(got)
	if got != "" && (f != (impl.DataFault{}) || impl.ShowData(d) != got || impl.Mend(got) != got && len(got) <= mendMost) {
		t.Errorf("%.1100q %q %v", s, got, f)
	}
	if d, f := impl.ReadData(s); f == (impl.DataFault{}) && len(s) <= mendMost && got != impl.ShowData(d) {
		t.Errorf("%.1100q is right: %q", s, got)
	}
	return got
}

func TestMendByHand(t *testing.T) {
	for s, want := range map[string]string{
		"":                                      "",
		" \n":                                   "",
		"# x":                                   "",
		"data_":                                 "",
		"7 data_a":                              "",
		"\tdata_a":                              "",
		"data_a":                                "data_a\n",
		"data_a\t":                              "",
		"data_a \t":                             "data_a\n",
		" data_a # x":                           "data_a\n",
		"data_a data_b":                         "data_a\n",
		"data_a _x":                             "data_a\n",
		"data_a _x 1":                           "data_a\n_x 1\n",
		"data_a _x 1\t":                         "data_a\n",
		"data_a _x 1 \t":                        "data_a\n_x 1\n",
		"data_a _x 1é":                          "data_a\n",
		"data_a _x 1#é":                         "data_a\n",
		"data_a _x 1 #é":                        "data_a\n_x 1\n",
		"data_a _x 1 2":                         "data_a\n_x 1\n",
		"data_a _x 1 _y":                        "data_a\n_x 1\n",
		"data_a _x 1 _x 2":                      "data_a\n_x 1\n",
		"data_a _x '1":                          "data_a\n",
		"data_a _x '1 2":                        "data_a\n",
		"data_a _x '1 _y 2 ":                    "data_a\n",
		"data_a _x '1'2":                        "data_a\n",
		"data_a _x '1' '2":                      "data_a\n_x 1\n",
		"data_a _x '1 2' 3":                     "data_a\n_x '1 2'\n",
		"data_a _x it's _y 1":                   "data_a\n",
		"data_a loop_":                          "data_a\n",
		"data_a loop_ 1":                        "data_a\n",
		"data_a loop_ _x":                       "data_a\nloop_\n_x\n",
		"data_a loop_ _x _y":                    "data_a\nloop_\n_x\n_y\n",
		"data_a loop_ _x _y 1":                  "data_a\nloop_\n_x\n_y\n",
		"data_a loop_ _x _y 1 2":                "data_a\nloop_\n_x\n_y\n1 2\n",
		"data_a loop_ _x _y 1 2 3":              "data_a\nloop_\n_x\n_y\n1 2\n",
		"data_a loop_ _x _y 1 2 3 4\t":          "data_a\nloop_\n_x\n_y\n1 2\n",
		"data_a loop_ _x _y 1 2 3 _z 4":         "data_a\nloop_\n_x\n_y\n1 2\n",
		"data_a loop_ _x _y 1 2 _z":             "data_a\nloop_\n_x\n_y\n1 2\n",
		"data_a loop_ _x _y 1 2 _z 3":           "data_a\n_z 3\nloop_\n_x\n_y\n1 2\n",
		"data_a loop_ _x _x 1 2":                "data_a\nloop_\n_x\n",
		"data_a loop_ _x loop_ _y loop_":        "data_a\nloop_\n_x\nloop_\n_y\n",
		"data_a loop_ _x _y _z 1 2 3 4 5 it's":  "data_a\nloop_\n_x\n_y\n_z\n1 2 3\n",
		"data_a loop_ _x 1 _y loop_ _z 2":       "data_a\nloop_\n_x\n1\n",
		"data_a # _x 1\n_y '' # _z":             "data_a\n_y ''\n",
		handText:                                handText,
		handText + "loop_ _q _r 7":              handText + "loop_\n_q\n_r\n",
		handText + "\x00":                       handText,
		"data_a _x " + strings.Repeat("v", 201): "data_a\n",
	} {
		if got := checkMend(t, s); got != want {
			t.Errorf("%q %q", s, got)
		}
	}
}

func TestMendOfRightTexts(t *testing.T) {
	var d dice
	right := 0
	for _, data := range d.blocks(400) {
		s := d.fileText(data)
		if got := impl.Mend(s); len(s) > mendMost {
			if got != "" {
				t.Errorf("%q", s)
			}
		} else if got != impl.ShowData(data) {
			t.Errorf("%q %q", s, got)
		} else {
			right++
		}
	}
	if right < 150 {
		t.Error("too few short texts:", right)
	}
}

func TestMendOfBeginnings(t *testing.T) {
	var d dice
	texts := []string{handText, "# c\n data_q _a\n'4.9 A' # more\nloop_ _x _y 1 'loop_' '' z loop_ _w _v _u 1 2 3\n4 5 6 _b 1"}
	for range 4 {
		texts = append(texts, d.fileText(d.block(2, 2, 3, 3)))
	}
	for _, s := range texts {
		for end := range min(len(s), 400) + 1 {
			checkMend(t, s[:end])
		}
	}
}

// A fault at the first token, in the middle and at the last one.
func TestMendOfFaults(t *testing.T) {
	for _, ahead := range []string{"", "data_a ", rightAhead} {
		for _, part := range slices.Concat(faultyParts(), faultyEnds(), faultyHeads()) {
			for _, behind := range []string{"", " ", "\n_q 1", " loop_ _q 1 2"} {
				if s := ahead + part.s + behind; len(s) <= mendMost {
					checkMend(t, s)
				}
			}
		}
	}
	words := []string{"data_a", "_r", "1", "loop_", "_x", "_y", "1", "'2 3'", "4", "''", "_s", "5", "loop_", "_z", "6", "7"}
	for at := range words {
		for _, word := range []string{"it's", "data_b", "_r", "loop_", "_9", "8", "'8", "8\t", "\x80", "'8'8"} {
			put := slices.Insert(slices.Clone(words), at, word)
			checkMend(t, strings.Join(put, " "))
			changed := slices.Clone(words)
			changed[at] = word
			checkMend(t, strings.Join(changed, "\n"))
		}
		checkMend(t, strings.Join(slices.Delete(slices.Clone(words), at, at+1), " "))
	}
}

func TestMendByRule(t *testing.T) {
	var d dice
	kinds := [3]int{}
	for range 2500 {
		s := d.anyFile(d.block(int(d.between(0, 3)), int(d.between(0, 2)), 3, 3))
		if len(s) > 300 {
			s = s[:300]
		}
		switch got := checkMend(t, s); {
		case got == "":
			kinds[0]++
		case strings.Count(got, "\n") == 1:
			kinds[1]++
		default:
			kinds[2]++
		}
	}
	if slices.Min(kinds[:]) < 100 {
		t.Error("too few of a kind:", kinds)
	}
}

func TestMendTakesMaxMendAndNoMore(t *testing.T) {
	for _, s := range []string{"data_a _x 1", handText, handText + "loop_ _q _r 7", "data_a \t"} {
		want := impl.Mend(s)
		if want == "" {
			t.Fatal(s)
		}
		for _, fill := range []string{" ", "\n", "#", "\x00"} {
			just := s + "\n" + strings.Repeat(fill, mendMost-len(s)-1)
			if got := checkMend(t, just); got != want || len(just) != mendMost {
				t.Errorf("%q %q", s, got)
			}
			if got := checkMend(t, just+fill); got != "" {
				t.Errorf("%q %q", s, got)
			}
		}
		if got := impl.Mend(s + strings.Repeat(" ", dataMost)); got != "" {
			t.Errorf("%q %q", s, got)
		}
	}
	full := "data_a _x " + strings.Repeat("v", valueMost) + "\nloop_ _y " + strings.Repeat("1 ", 500)
	if got := checkMend(t, full[:mendMost]); strings.Count(got, "\n") < 300 || checkMend(t, full[:mendMost+1]) != "" {
		t.Error(len(got))
	}
}

// More items than a text may have are within MaxMend bytes too.
func TestMendOfTooManyItems(t *testing.T) {
	s, count := "data_a loop_", 0
	for _, first := range append([]string{""}, strings.Split("abcdefgh", "")...) {
		for _, letter := range firstName {
			if word := " _" + string(letter) + first; len(s)+len(word) <= mendMost {
				s += word
				count++
			}
		}
	}
	got := checkMend(t, s)
	if d, f := impl.ReadData(got); count <= itemsMost || len(d.Items) != itemsMost || f != (impl.DataFault{}) {
		t.Error(count, len(d.Items), f)
	}
}

func TestFileArgumentsStay(t *testing.T) {
	var d dice
	list := append(d.blocks(20), handData(), block("d", onesOf(itemsMost), manyColumns(itemsMost, 20)...), block("d", nil, manySingles(itemsMost+1)...))
	for _, data := range wrongData() {
		list = append(list, data)
	}
	for _, data := range list {
		given, guard := dataWithRoom(data)
		impl.DataOk(given)
		impl.ShowData(given)
		for _, item := range given.Items {
			got, _ := impl.Column(given, item.Name)
			spoilTexts(got)
		}
		impl.Column(given, "behind")
		if !guard() || !sameData(given, data) {
			t.Errorf("%.200q", told(data))
		}
	}
}

// What lies behind a list's length is not of it.
func TestFileLeavesOutWhatLiesBehind(t *testing.T) {
	for _, data := range []impl.Data{handData(), block("d", nil), block("d", []int64{1}, column("x"))} {
		given, _ := dataWithRoom(data)
		if !impl.DataOk(given) || impl.ShowData(given) != impl.ShowData(data) {
			t.Errorf("%q", told(data))
		}
		if got, ok := impl.Column(given, "behind"); ok || len(got) != 0 {
			t.Errorf("%q", got)
		}
		for _, item := range data.Items {
			if got, ok := impl.Column(given, item.Name); !ok || !slices.Equal(got, item.Values) {
				t.Errorf("%q %q", item.Name, got)
			}
		}
	}
}

func TestFileAnswersAreNewMemory(t *testing.T) {
	var d dice
	for _, data := range append(d.blocks(100), handData()) {
		s := strings.Clone(d.fileText(data))
		if len(s) > dataMost {
			continue
		}
		first, _ := impl.ReadData(s)
		second, _ := impl.ReadData(s)
		for _, text := range append(textsOf(first), impl.ShowData(first), impl.Mend(s)) {
			if sharesText(text, s) {
				t.Errorf("%q shares %q", s, text)
			}
		}
		lists := [][]string{}
		for _, item := range slices.Concat(first.Items, second.Items) {
			lists = append(lists, item.Values)
		}
		for _, item := range data.Items {
			got, _ := impl.Column(data, item.Name)
			for i, text := range got {
				if sharesText(text, item.Values[i]) {
					t.Errorf("%q is shared", text)
				}
			}
			lists = append(lists, got)
		}
		want := cloneData(data)
		if !shareNoTexts(lists) || !sameData(data, want) {
			t.Errorf("%q: two lists share memory", s)
		}
		spoilData(first)
		if third, f := impl.ReadData(s); f != (impl.DataFault{}) || !sameData(third, data) {
			t.Errorf("%q %v", s, f)
		}
	}
	for _, s := range []string{handText, rightAhead} {
		first, _ := impl.ReadData(s)
		second, _ := impl.ReadData(s)
		spoilData(first)
		if want, _ := readByRule(s); !sameData(second, want) {
			t.Errorf("%q", told(second))
		}
	}
	checkNewList(t, "Column", func() []string {
		got, _ := impl.Column(handData(), "y")
		return got
	})
}

// Every call answers the same, one behind the other and all at once, whatever
// was given up in between.
func TestFileAnswersTheSame(t *testing.T) {
	var all sync.WaitGroup
	for start := range 8 {
		all.Go(func() {
			d := dice(start)
			data := d.block(3, 2, 3, 3)
			right, spoilt := d.fileText(data), d.spoiltFile(d.fileText(data))
			short := right[:min(len(right), 300)]
			_, wantFault := readByRule(spoilt)
			shown, mended := showByRule(data), mendByRule(short)
			for range 20 {
				if _, f := impl.ReadData(spoilt); f != wantFault {
					t.Errorf("%q %v", spoilt, f)
				}
				if got, f := impl.ReadData(right); f != (impl.DataFault{}) || !sameData(got, data) {
					t.Errorf("%q %v", right, f)
				}
				if !impl.DataOk(data) || impl.ShowData(data) != shown || impl.Mend(short) != mended {
					t.Errorf("%q", told(data))
				}
			}
		})
	}
	all.Wait()
}

// wildData is spoilt in one place, nearly always.
func (d *dice) wildData() impl.Data {
	out := d.block(int(d.between(0, 3)), int(d.between(0, 3)), 3, 3)
	if d.between(0, 9) == 0 {
		out.Name = d.pick(wrongNames()...)
	}
	if len(out.Loops) > 0 {
		loop := &out.Loops[d.between(0, int64(len(out.Loops)-1))]
		switch d.between(0, 9) {
		case 0:
			*loop = d.wildUpTo(4)
		case 1:
			out.Loops = out.Loops[:len(out.Loops)-1]
		}
	}
	if len(out.Items) == 0 {
		return out
	}
	other := out.Items[d.between(0, int64(len(out.Items)-1))]
	item := &out.Items[d.between(0, int64(len(out.Items)-1))]
	switch d.between(0, 15) {
	case 0:
		item.Name = d.pick(wrongNames()...)
	case 1:
		item.Name = other.Name
	case 2, 3:
		item.Rows = d.wildUpTo(3)
	case 4:
		item.Rows = other.Rows
	case 5:
		item.Values = append(item.Values, "more")
	case 6:
		item.Values = slices.Clone(other.Values)
	case 7:
		if len(item.Values) > 0 {
			item.Values[len(item.Values)-1] = d.pick(wrongValues()...)
		}
	case 8:
		*item = other
	case 9:
		out.Loops = append(out.Loops, d.wildUpTo(2))
	}
	return out
}

// anyBytes: of all bytes, or of few that mean something.
func (d *dice) anyBytes(count int64) string {
	const few = "  \n'#_ad\xff"
	out := []byte{}
	for range count {
		b := byte(d.bits())
		if count%2 == 0 {
			b = few[int(b)%len(few)]
		}
		out = append(out, b)
	}
	return string(out)
}

func TestFileAnswersAtEveryArgument(t *testing.T) {
	var d dice
	kinds := [4]int{}
	for range 6000 {
		data := d.wildData()
		if checkData(t, data) {
			checkShown(t, data)
			kinds[0]++
		} else {
			kinds[1]++
		}
		impl.Column(data, d.anyBytes(d.between(0, 3)))
		s := d.anyBytes(d.between(0, 60))
		if d.between(0, 1) == 0 {
			s = "data_a _x 1 loop_ _y _z " + s
		}
		if checkRead(t, s).Code == 0 {
			kinds[2]++
		} else {
			kinds[3]++
		}
		checkMend(t, s)
	}
	for _, data := range []impl.Data{{}, {Items: make([]impl.Item, 100000)}, {Name: "d", Items: make([]impl.Item, 100000), Loops: onesOf(100000)}, block("d", []int64{1}, manyColumns(1, 1000000)...)} {
		if impl.DataOk(data) || impl.ShowData(data) != "" {
			t.Error(len(data.Items))
		}
	}
	if slices.Min(kinds[:]) < 30 {
		t.Error("too few of a kind:", kinds)
	}
}
