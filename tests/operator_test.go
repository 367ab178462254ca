package tests

import (
	"math/big"
	"regexp"
	"slices"
	"strconv"
	"strings"

	"loop.example/g00055/impl"
)

// turns: all lists of nine numbers -1, 0, 1 of the determinant 1 or -1.
func turns() [][]int64 {
	list := [][]int64{}
	for code := range 19683 {
		m := make([]int64, 9)
		for i := range m {
			m[i] = int64(code%3) - 1
			code /= 3
		}
		if detByRule(m).CmpAbs(big.NewInt(1)) == 0 {
			list = append(list, m)
		}
	}
	return list
}

func stillOp() impl.Op { return impl.Op{M: unit(), T: make([]int64, 3)} }

// shifts: three numbers from 0 to 23.
func (d *dice) shifts() []int64 {
	return []int64{d.between(0, 23), d.between(0, 23), d.between(0, 23)}
}

// frame: an Op that only changes axes, their directions and their beginning.
func (d *dice) frame() impl.Op {
	o := impl.Op{M: make([]int64, 9), T: d.shifts()}
	first, step := d.between(0, 2), d.between(1, 2)
	for i := range int64(3) {
		o.M[3*i+(first+step*i)%3] = 2*d.between(0, 1) - 1
	}
	return o
}

// six: an Op of a cell with two axes of 120 degrees between them.
func (d *dice) six() impl.Op {
	planes := [][4]int64{{1, 0, 0, 1}, {0, -1, 1, -1}, {-1, 1, -1, 0}, {-1, 0, 0, -1}, {0, 1, -1, 1}, {1, -1, 1, 0}, {0, 1, 1, 0}, {1, -1, 0, -1}, {-1, 0, -1, 1}}
	p := planes[d.between(0, int64(len(planes)-1))]
	return impl.Op{M: []int64{p[0], p[1], 0, p[2], p[3], 0, 0, 0, 2*d.between(0, 1) - 1}, T: d.shifts()}
}

func sameOp(a, b impl.Op) bool { return slices.Equal(a.M, b.M) && slices.Equal(a.T, b.T) }

func isZeroOp(o impl.Op) bool { return len(o.M) == 0 && len(o.T) == 0 }

func cloneOp(o impl.Op) impl.Op { return impl.Op{M: slices.Clone(o.M), T: slices.Clone(o.T)} }

func rightByRule(o impl.Op) bool {
	if len(o.M) != 9 || len(o.T) != 3 {
		return false
	}
	return slices.Max(o.M) <= 1 && slices.Min(o.M) >= -1 && slices.Max(o.T) <= 23 && slices.Min(o.T) >= 0 &&
		detByRule(o.M).CmpAbs(big.NewInt(1)) == 0
}

// pointBehind: where an Op takes a point of the whole space.
func pointBehind(o impl.Op, p [3]int64) [3]int64 {
	return [3]int64{
		o.M[0]*p[0] + o.M[1]*p[1] + o.M[2]*p[2] + o.T[0],
		o.M[3]*p[0] + o.M[4]*p[1] + o.M[5]*p[2] + o.T[1],
		o.M[6]*p[0] + o.M[7]*p[1] + o.M[8]*p[2] + o.T[2],
	}
}

// productByRule is told by where four points come to lie, b first; it may be
// no right Op.
func productByRule(a, b impl.Op) impl.Op {
	out := impl.Op{M: make([]int64, 9), T: make([]int64, 3)}
	start := pointBehind(a, pointBehind(b, [3]int64{}))
	for k := range 3 {
		var corner [3]int64
		corner[k] = 1
		end := pointBehind(a, pointBehind(b, corner))
		for i := range 3 {
			out.M[3*i+k] = end[i] - start[i]
		}
		out.T[k] = (start[k]%24 + 24) % 24
	}
	return out
}

func orderByRule(o impl.Op) int64 {
	power := stillOp()
	for n := int64(1); n <= 24; n++ {
		power = productByRule(power, o)
		if !rightByRule(power) {
			return 0
		}
		if sameOp(power, stillOp()) {
			return n
		}
	}
	return 0
}

// turnBackByRule: the inverse by cofactors, of the determinant 1 or -1.
func turnBackByRule(m []int64) []int64 {
	out := make([]int64, 9)
	det := detByRule(m)
	for i := range 3 {
		for j := range 3 {
			minor := minorByRule(m, (j+1)%3, (j+2)%3, (i+1)%3, (i+2)%3)
			out[3*i+j] = minor.Mul(minor, det).Int64()
		}
	}
	return out
}

// opText: what OpRead is to tell of a text, by patterns of texts.
type opText struct {
	term, part *regexp.Regexp
}

func newOpText() opText {
	const part = `(?:[xyzXYZ]|[0-9]{1,2}/(?:12|24|0?[123468]))`
	return opText{
		regexp.MustCompile(`^[+-]?` + part + `(?:[+-]` + part + `)*$`),
		regexp.MustCompile(`[+-][^+-]+`),
	}
}

func (p opText) isTerm(stretch string) bool {
	bare := strings.ToLower(strings.ReplaceAll(stretch, " ", ""))
	if !p.term.MatchString(bare) {
		return false
	}
	for _, once := range []string{"x", "y", "z", "/"} {
		if strings.Count(bare, once) > 1 {
			return false
		}
	}
	return true
}

// numbers: the row of M and the number of T of what is a term.
func (p opText) numbers(stretch string) ([]int64, int64) {
	bare := strings.ToLower(strings.ReplaceAll(stretch, " ", ""))
	if bare[0] != '+' && bare[0] != '-' {
		bare = "+" + bare
	}
	row, shift := make([]int64, 3), int64(0)
	for _, part := range p.part.FindAllString(bare, -1) {
		sign := int64(1)
		if part[0] == '-' {
			sign = -1
		}
		above, below, isFraction := strings.Cut(part[1:], "/")
		if !isFraction {
			row[strings.Index("xyz", above)] = sign
			continue
		}
		a, _ := strconv.ParseInt(above, 10, 64)
		b, _ := strconv.ParseInt(below, 10, 64)
		shift = ((sign*a*24/b)%24 + 24) % 24
	}
	return row, shift
}

func (p opText) read(s string) (impl.Op, int64) {
	if len(s) > 200 {
		return impl.Op{}, 0
	}
	var o impl.Op
	stretches := strings.Split(s, ",")
	for i, stretch := range stretches {
		if !p.isTerm(stretch) {
			return impl.Op{}, int64(len(strings.Join(stretches[:i], ",")) + min(i, 1))
		}
		row, shift := p.numbers(stretch)
		o.M, o.T = append(o.M, row...), append(o.T, shift)
	}
	if !rightByRule(o) {
		return impl.Op{}, int64(len(s))
	}
	return o, -1
}

func (d *dice) pick(list ...string) string { return list[d.between(0, int64(len(list)-1))] }

// term: a text that is a term nearly always.
func (d *dice) term() string {
	out := d.pick("", "", "+", "-")
	for i := range d.between(1, 4) {
		if i > 0 {
			out += d.pick("+", "-")
		}
		switch d.between(0, 5) {
		case 0:
			out += strconv.FormatInt(d.between(0, 30), 10) + "/" + d.pick("1", "2", "03", "4", "06", "8", "12", "24", "24")
		default:
			out += d.pick("x", "y", "z", "X", "Y", "Z")
		}
	}
	return out
}

// spoilt: a text with some bytes put in, taken away or changed.
func (d *dice) spoilt(s string) string {
	const letters = "  xyzXYZ+-/,0123456789aw.\t\n\x00\xff"
	b := []byte(s)
	for range d.between(0, 3) {
		at := d.between(0, int64(len(b)))
		c := letters[d.between(0, int64(len(letters)-1))]
		switch d.between(0, 3) {
		case 0:
			if at < int64(len(b)) {
				b[at] = c
			}
		case 1:
			if at < int64(len(b)) {
				b = slices.Delete(b, int(at), int(at)+1)
			}
		case 2:
			b = slices.Insert(b, int(at), c)
		default:
			b = slices.Insert(b, int(at), ' ')
		}
	}
	return string(b)
}
