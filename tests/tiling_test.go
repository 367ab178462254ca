package tests

import (
	"math/big"
	"math/bits"
	"slices"
	"strings"
	"unsafe"
)

// The limits of chapter 9 as the document writes them.
const (
	rowMost    = 20000
	timesMost  = 30
	goldenMost = 1000000000
	fromMost   = 100000000
	shortMost  = 1000
	factorMost = 40
)

func isRowByRule(text string, most int) bool {
	return len(text) <= most && strings.Trim(text, "LS") == ""
}

func inflateByRule(row string, times int64) (string, bool) {
	if !isRowByRule(row, rowMost) || times < 0 || times > timesMost {
		return "", false
	}
	for range times {
		row = strings.NewReplacer("L", "LS", "S", "L").Replace(row)
		if len(row) > rowMost {
			return "", false
		}
	}
	return row, true
}

// deflateByRule cuts the row in front of each L; what is cut off is LS or L
// alone, or the row was not made.
func deflateByRule(row string) (string, bool) {
	if !isRowByRule(row, rowMost) {
		return "", false
	}
	pieces := strings.Split(row, "L")
	out := strings.Builder{}
	for _, behind := range pieces[1:] {
		switch behind {
		case "":
			out.WriteByte('S')
		case "S":
			out.WriteByte('L')
		default:
			return "", false
		}
	}
	if pieces[0] != "" {
		return "", false
	}
	return out.String(), true
}

// goldenByRule takes what the golden number has behind the point in 64 binary
// digits: k times it lies farther from every whole number than what is cut off.
func goldenByRule(k int64) int64 {
	if k < 0 || k > goldenMost {
		return 0
	}
	whole, _ := bits.Mul64(uint64(k), 0x9E3779B97F4A7C15)
	return k + int64(whole)
}

// isGolden asks what Golden is said to be of its answer: 2 g - k is at most the
// root of 5 times k, 2 (g + 1) - k is above it.
func isGolden(g, k int64) bool {
	most := new(big.Int).Mul(big.NewInt(5*k), big.NewInt(k))
	square := func(n int64) *big.Int { return new(big.Int).Mul(big.NewInt(n), big.NewInt(n)) }
	return 2*g >= k && square(2*g-k).Cmp(most) <= 0 && square(2*g+2-k).Cmp(most) > 0
}

// fibonacci: the numbers 1, 2, 3, 5, .. up to most. Times the golden number,
// they lie nearer to a whole number than any less number does.
func fibonacci(most int64) []int64 {
	list := []int64{1, 2}
	for n := len(list); list[n-2]+list[n-1] <= most; n++ {
		list = append(list, list[n-2]+list[n-1])
	}
	return list
}

func cutByRule(from, n int64) string {
	if from < 0 || from > fromMost || n < 0 || n > rowMost {
		return ""
	}
	out := strings.Builder{}
	for i := range n {
		switch goldenByRule(from+i+2) - goldenByRule(from+i+1) {
		case 1:
			out.WriteByte('S')
		default:
			out.WriteByte('L')
		}
	}
	return out.String()
}

func factorsByRule(row string, n int64) []string {
	if !isRowByRule(row, shortMost) || n < 1 || n > factorMost {
		return nil
	}
	list := []string{}
	for from := range row {
		if from+int(n) <= len(row) {
			list = append(list, row[from:][:n])
		}
	}
	slices.Sort(list)
	return slices.Compact(list)
}

// balancedByRule counts every stretch by itself.
func balancedByRule(row string) bool {
	if !isRowByRule(row, shortMost) {
		return false
	}
	for n := 1; n <= len(row); n++ {
		counts := []int{}
		for from := 0; from+n <= len(row); from++ {
			counts = append(counts, strings.Count(row[from:from+n], "L"))
		}
		if slices.Max(counts)-slices.Min(counts) > 1 {
			return false
		}
	}
	return true
}

// rowsOf: all rows of n letters.
func rowsOf(n int) []string {
	list := []string{""}
	for range n {
		longer := []string{}
		for _, row := range list {
			longer = append(longer, row+"L", row+"S")
		}
		list = longer
	}
	return list
}

// wrongRows: a row with one letter that is none, at its beginning, in its
// middle, at its end, or alone.
func wrongRows() []string {
	list := []string{}
	for _, letter := range []string{"l", "s", "K", "M", "R", "T", "X", " ", "\n", "\x00", "\xcc", "\xd3", "\xff", "Ł", "Ş", "L\u0301", "0"} {
		list = append(list, letter, letter+"LSLLS", "LSL"+letter+"LS", "LSLLS"+letter, "LS"+letter+"LS"+letter)
	}
	return list
}

func (d *dice) row(n int64) string {
	out := []byte{}
	for range n {
		out = append(out, "LS"[d.between(0, 1)])
	}
	return string(out)
}

// sharesText: does some byte of one text lie where one of the other does?
func sharesText(a, b string) bool {
	if a == "" || b == "" {
		return false
	}
	p, q := uintptr(unsafe.Pointer(unsafe.StringData(a))), uintptr(unsafe.Pointer(unsafe.StringData(b)))
	return p < q+uintptr(len(b)) && q < p+uintptr(len(a))
}
