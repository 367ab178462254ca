package tests

import (
	"math"
	"math/big"
	"math/cmplx"
	"slices"

	"loop.example/g00055/impl"
)

const cycMost = 1000000000000

// orders are those of the cyclic groups that have characters here.
func orders() []int64 { return []int64{1, 2, 3, 4, 6, 12} }

func cyc(a, b, c, d int64) impl.Cyc { return impl.Cyc{A: a, B: b, C: c, D: d} }

func cycNumbers(a impl.Cyc) []int64 { return []int64{a.A, a.B, a.C, a.D} }

func isCycByRule(a impl.Cyc) bool {
	return slices.Max(cycNumbers(a)) <= cycMost && slices.Min(cycNumbers(a)) >= -cycMost
}

// wrongCycs: each has one number that is none.
func wrongCycs() []impl.Cyc {
	list := []impl.Cyc{}
	for _, n := range []int64{cycMost + 1, -cycMost - 1, 2 * cycMost, 1 << 62, math.MaxInt64, math.MinInt64, math.MinInt64 + 1} {
		list = append(list, cyc(n, 0, 0, 0), cyc(0, n, 0, 0), cyc(0, 0, n, 0), cyc(0, 0, 0, n))
		list = append(list, cyc(n, 1, -2, 3), cyc(1, n, 0, -1), cyc(cycMost, 0, n, 1), cyc(1, 2, -cycMost, n))
	}
	return list
}

func (d *dice) cyc(most int64) impl.Cyc {
	n := d.numbers(4, most)
	return cyc(n[0], n[1], n[2], n[3])
}

func (d *dice) wildCyc() impl.Cyc {
	if d.between(0, 2) == 0 {
		return cyc(d.wildNumber(), d.wildNumber(), d.wildNumber(), d.wildNumber())
	}
	return d.cyc([]int64{1, 3, 1000, 1000000, 2000000, cycMost, cycMost + 2}[d.between(0, 6)])
}

// sumOfPowers: number i is how often w to the power i stands in a sum, without
// any bounds.
type sumOfPowers []*big.Int

func noPowers(count int) sumOfPowers {
	out := make(sumOfPowers, count)
	for i := range out {
		out[i] = new(big.Int)
	}
	return out
}

func (s sumOfPowers) add(power int, count *big.Int) { s[power].Add(s[power], count) }

// cyc: from above down, each power of w is the one two below less the one four
// below, until four are left.
func (s sumOfPowers) cyc() (impl.Cyc, bool) {
	for i := len(s) - 1; i >= 4; i-- {
		s[i-2].Add(s[i-2], s[i])
		s[i-4].Sub(s[i-4], s[i])
	}
	most := big.NewInt(cycMost)
	var n [4]int64
	for i := range n {
		if s[i].CmpAbs(most) > 0 {
			return impl.Cyc{}, false
		}
		n[i] = s[i].Int64()
	}
	return cyc(n[0], n[1], n[2], n[3]), true
}

func cycAddByRule(a, b impl.Cyc) (impl.Cyc, bool) {
	sum := noPowers(4)
	for _, c := range []impl.Cyc{a, b} {
		if !isCycByRule(c) {
			return impl.Cyc{}, false
		}
		for i, n := range cycNumbers(c) {
			sum.add(i, big.NewInt(n))
		}
	}
	return sum.cyc()
}

func cycMulByRule(a, b impl.Cyc) (impl.Cyc, bool) {
	if !isCycByRule(a) || !isCycByRule(b) {
		return impl.Cyc{}, false
	}
	sum := noPowers(7)
	for i, n := range cycNumbers(a) {
		for j, m := range cycNumbers(b) {
			sum.add(i+j, new(big.Int).Mul(big.NewInt(n), big.NewInt(m)))
		}
	}
	return sum.cyc()
}

// cycConjByRule puts w to the power 11 in w's place.
func cycConjByRule(a impl.Cyc) impl.Cyc {
	if !isCycByRule(a) {
		return impl.Cyc{}
	}
	sum := noPowers(34)
	for i, n := range cycNumbers(a) {
		sum.add(11*i, big.NewInt(n))
	}
	out, _ := sum.cyc()
	return out
}

func cycRootByRule(k int64) impl.Cyc {
	sum := noPowers(12)
	sum.add(int(new(big.Int).Mod(big.NewInt(k), big.NewInt(12)).Int64()), big.NewInt(1))
	out, _ := sum.cyc()
	return out
}

// realByRule is p + q r by its digits, far more of them than any difference of
// numbers in range needs.
func realByRule(p, q int64) *big.Float {
	root := new(big.Float).SetPrec(300).SetInt64(3)
	root.Sqrt(root)
	root.Mul(root, new(big.Float).SetInt64(q))
	return root.Add(root, new(big.Float).SetInt64(p))
}

func signByRule(p, q int64) int64 {
	if max(p, q) > cycMost || min(p, q) < -cycMost {
		return 0
	}
	return int64(realByRule(p, q).Sign())
}

func cycFloatByRule(a impl.Cyc) (float64, float64) {
	if !isCycByRule(a) {
		return 0, 0
	}
	do := func(op byte, x, y float64) float64 { return roundedOnce(op, x, y, 64) }
	const c = 0.8660254037844386
	re := do('+', float64(a.A), do('*', c, float64(a.B)))
	im := do('+', do('*', 0.5, float64(a.B)), do('*', c, float64(a.C)))
	return do('+', re, do('*', 0.5, float64(a.C))), do('+', im, float64(a.D))
}

// sines: the number by sines, to hold the rules against.
func sines(a impl.Cyc) complex128 {
	var sum complex128
	for i, n := range cycNumbers(a) {
		sum += complex(float64(n), 0) * cmplx.Exp(complex(0, math.Pi*float64(i)/6))
	}
	return sum
}

// timesByRule: by sines; numbers as small as these are whole where they are
// so near to one.
func timesByRule(n int64, traces []int64) ([]int64, bool) {
	if !slices.Contains(orders(), n) || len(traces) != int(n) || slices.Max(traces) > 1000 || slices.Min(traces) < -1000 {
		return nil, false
	}
	out := []int64{}
	for k := range n {
		var sum complex128
		for j, trace := range traces {
			sum += complex(float64(trace), 0) * cmplx.Exp(complex(0, -2*math.Pi*float64(k)*float64(j)/float64(n)))
		}
		sum /= complex(float64(n), 0)
		nearest := math.Round(real(sum))
		if cmplx.Abs(sum-complex(nearest, 0)) > 1e-9 || nearest < 0 {
			return nil, false
		}
		out = append(out, int64(nearest))
	}
	return out, true
}

// tracesOf: the traces of a representation in which row k stands times(k)
// times; false when one of them is no whole number, so that no list tells it.
func tracesOf(n int64, times []int64) ([]int64, bool) {
	out := []int64{}
	for j := range n {
		sum := noPowers(12)
		for k, count := range times {
			sum.add(int(12/n*j*int64(k)%12), big.NewInt(count))
		}
		c, ok := sum.cyc()
		if !ok || c != cyc(c.A, 0, 0, 0) {
			return nil, false
		}
		out = append(out, c.A)
	}
	return out, true
}

func gcd(a, b int64) int64 {
	for b != 0 {
		a, b = b, a%b
	}
	return max(a, -a)
}

// times: how often each row stands, rows whose sums are whole together alike.
func (d *dice) times(n, most int64) []int64 {
	each := map[int64]int64{}
	out := []int64{}
	for k := range n {
		g := gcd(k, n)
		if _, ok := each[g]; !ok {
			each[g] = d.between(0, most)
		}
		out = append(out, each[g])
	}
	return out
}

// nearReals: pairs of which p - q r is as near to 0 as it can be, the greatest
// in range among them. Each p² - 3 q² is 1 or -2.
func nearReals() [][2]int64 {
	list := [][2]int64{}
	for _, start := range [][2]int64{{1, 0}, {1, 1}} {
		for p, q := start[0], start[1]; p <= cycMost; p, q = 2*p+3*q, p+2*q {
			list = append(list, [2]int64{p, q})
		}
	}
	return list
}
