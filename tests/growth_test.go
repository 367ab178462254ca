package tests

import (
	"math"
	"slices"

	"loop.example/g00055/impl"
)

// The limits of chapter 10 as the document writes them.
const (
	sitesMost  = 200
	heightMost = 1000000
	coinsMost  = 4096
	netMost    = 30
	slipMost   = 1000000
)

func allFrom(list []int64, low, high int64) bool {
	return len(list) == 0 || slices.Min(list) >= low && slices.Max(list) <= high
}

func isSurfaceByRule(heights []int64) bool {
	return len(heights) > 0 && len(heights) <= sitesMost && allFrom(heights, 0, heightMost)
}

func areCoinsByRule(coins []int64) bool {
	return len(coins) <= coinsMost && allFrom(coins, 0, math.MaxInt64)
}

// ringAt: the ring goes on either way, so a walk on it may count on.
func ringAt(ring []int64, place int64) *int64 {
	n := int64(len(ring))
	return &ring[(place%n+n)%n]
}

func depositByRule(heights, coins []int64) ([]int64, bool) {
	if !isSurfaceByRule(heights) || !areCoinsByRule(coins) {
		return nil, false
	}
	out := slices.Clone(heights)
	for _, coin := range coins {
		place := coin % int64(len(out))
		for {
			here, ahead, behind := *ringAt(out, place), *ringAt(out, place-1), *ringAt(out, place+1)
			if ahead < here && ahead <= behind {
				place--
			} else if behind < here {
				place++
			} else {
				break
			}
		}
		*ringAt(out, place)++
	}
	if !allFrom(out, 0, heightMost) {
		return nil, false
	}
	return out, true
}

func etchByRule(heights, coins []int64) ([]int64, int64) {
	if !isSurfaceByRule(heights) || !areCoinsByRule(coins) {
		return nil, 0
	}
	out, taken := slices.Clone(heights), int64(0)
	for _, coin := range coins {
		place := coin % int64(len(out))
		here := *ringAt(out, place)
		if here > *ringAt(out, place-1) && here > *ringAt(out, place+1) && here > 0 {
			*ringAt(out, place)--
			taken++
		}
	}
	return out, taken
}

func stepsByRule(heights []int64) (int64, int64) {
	if !isSurfaceByRule(heights) {
		return 0, 0
	}
	rises, sum := int64(0), int64(0)
	for place, height := range heights {
		switch behind := *ringAt(heights, int64(place)+1); {
		case height < behind:
			rises++
			sum += behind - height
		default:
			sum += height - behind
		}
	}
	return rises, sum
}

func sumOfHeights(heights []int64) int64 {
	sum := int64(0)
	for _, height := range heights {
		sum += height
	}
	return sum
}

// turnedRing: what stood at a place stands by so many farther behind.
func turnedRing(ring []int64, by int64) []int64 {
	out := make([]int64, len(ring))
	for place, n := range ring {
		*ringAt(out, int64(place)+by) = n
	}
	return out
}

// filled: a list of so many numbers, all alike.
func filled(count int, n int64) []int64 { return slices.Repeat([]int64{n}, count) }

// smallSurfaces: all of n sites with heights from 0 to most.
func smallSurfaces(n int, most int64) [][]int64 {
	list := [][]int64{{}}
	for range n {
		longer := [][]int64{}
		for _, heights := range list {
			for height := range most + 1 {
				longer = append(longer, append(slices.Clone(heights), height))
			}
		}
		list = longer
	}
	return list
}

func (d *dice) heights(count int, most int64) []int64 {
	list := []int64{}
	for range count {
		list = append(list, d.between(0, most))
	}
	return list
}

// surfaces: flat ones, stairs either way, single towers and pits, and drawn
// ones, low and high.
func (d *dice) surfaces(count int) [][]int64 {
	stair := []int64{}
	for site := range int64(count) {
		stair = append(stair, 3*site+5)
	}
	stairDown := slices.Clone(stair)
	slices.Reverse(stairDown)
	tower, pit := filled(count, 2), filled(count, 9)
	tower[d.between(0, int64(count-1))], pit[d.between(0, int64(count-1))] = 30, 0
	return [][]int64{
		filled(count, 0), filled(count, 7), stair, stairDown, tower, pit,
		d.heights(count, 1), d.heights(count, 3), d.heights(count, 40), d.heights(count, heightMost-5000),
	}
}

// coins: some for each site, and some that are greater than the ring is long.
func (d *dice) coins(count int) []int64 {
	list := []int64{}
	for range count {
		list = append(list, int64(d.bits()>>1)>>d.between(0, 62))
	}
	return list
}

// wrongSurfaces: each is none by one thing alone.
func wrongSurfaces() [][]int64 {
	list := [][]int64{nil, {}, filled(sitesMost+1, 0), filled(sitesMost+1, 5), filled(1000, 1), filled(coinsMost, 1)}
	for _, count := range []int{1, 2, 3, 7, sitesMost} {
		for _, height := range []int64{-1, -2, heightMost + 1, heightMost + 2, -heightMost, 1 << 32, math.MaxInt64, math.MinInt64, math.MinInt64 + 1} {
			for _, place := range []int{0, count / 2, count - 1} {
				heights := filled(count, 3)
				heights[place] = height
				list = append(list, heights)
			}
		}
	}
	return list
}

// wrongCoins: each is wrong by one thing alone.
func wrongCoins() [][]int64 {
	list := [][]int64{filled(coinsMost+1, 0), filled(coinsMost+1, 1), filled(2*coinsMost, 3)}
	for _, count := range []int{1, 2, 5, coinsMost} {
		for _, coin := range []int64{-1, -2, -200, math.MinInt64, math.MinInt64 + 1} {
			for _, place := range []int{0, count / 2, count - 1} {
				coins := filled(count, 1)
				coins[place] = coin
				list = append(list, coins)
			}
		}
	}
	return list
}

// A step goes from (x, y) to the right, or up.
type step struct {
	x, y int64
	up   bool
}

// stepsOfNet tells each step's number, by counting the steps row by row.
func stepsOfNet(n impl.Net) map[step]int64 {
	out := map[step]int64{}
	rights, ups := n.Right, n.Up
	for y := range n.H {
		for x := range n.W {
			if x != n.W-1 {
				out[step{x, y, false}], rights = rights[0], rights[1:]
			}
			if y != n.H-1 {
				out[step{x, y, true}], ups = ups[0], ups[1:]
			}
		}
	}
	return out
}

// netOf: each step's number is told by the step.
func netOf(w, h int64, tell func(s step) int64) impl.Net {
	out := impl.Net{W: w, H: h}
	for y := range h {
		for x := range w {
			if x != w-1 {
				out.Right = append(out.Right, tell(step{x, y, false}))
			}
			if y != h-1 {
				out.Up = append(out.Up, tell(step{x, y, true}))
			}
		}
	}
	return out
}

func blankNet(w, h int64) impl.Net { return netOf(w, h, func(step) int64 { return 0 }) }

func sameNet(a, b impl.Net) bool {
	return a.W == b.W && a.H == b.H && slices.Equal(a.Right, b.Right) && slices.Equal(a.Up, b.Up)
}

func isZeroNet(n impl.Net) bool { return sameNet(n, impl.Net{}) }

func cloneNet(n impl.Net) impl.Net {
	return impl.Net{W: n.W, H: n.H, Right: slices.Clone(n.Right), Up: slices.Clone(n.Up)}
}

func isNetByRule(n impl.Net) bool {
	if n.W < 1 || n.W > netMost || n.H < 1 || n.H > netMost {
		return false
	}
	counts := len(n.Right) == int(n.W*n.H-n.H) && len(n.Up) == int(n.W*n.H-n.W)
	return counts && allFrom(n.Right, -slipMost, slipMost) && allFrom(n.Up, -slipMost, slipMost)
}

// loopByRule walks along the rectangle's four sides, back to where it began.
func loopByRule(steps map[step]int64, x0, y0, x1, y1 int64) int64 {
	sum, x, y := int64(0), x0, y0
	for ; x != x1; x++ {
		sum += steps[step{x, y, false}]
	}
	for ; y != y1; y++ {
		sum += steps[step{x, y, true}]
	}
	for x != x0 {
		x--
		sum -= steps[step{x, y, false}]
	}
	for y != y0 {
		y--
		sum -= steps[step{x, y, true}]
	}
	return sum
}

func hasSquareByRule(n impl.Net, x, y int64) bool {
	return isNetByRule(n) && x >= 0 && y >= 0 && x <= n.W-2 && y <= n.H-2
}

func burgersByRule(n impl.Net, x, y int64) (int64, bool) {
	if !hasSquareByRule(n, x, y) {
		return 0, false
	}
	return loopByRule(stepsOfNet(n), x, y, x+1, y+1), true
}

func aroundByRule(n impl.Net, x0, y0, x1, y1 int64) (int64, bool) {
	if !isNetByRule(n) || !(0 <= x0 && x0 < x1 && x1 < n.W) || !(0 <= y0 && y0 < y1 && y1 < n.H) {
		return 0, false
	}
	return loopByRule(stepsOfNet(n), x0, y0, x1, y1), true
}

// netByRule: the net that is told step by step, if it is one.
func netByRule(w, h int64, tell func(s step) int64) (impl.Net, bool) {
	out := netOf(w, h, tell)
	if !isNetByRule(out) {
		return impl.Net{}, false
	}
	return out, true
}

func slipByRule(n impl.Net, x, y, by int64) (impl.Net, bool) {
	if !hasSquareByRule(n, x, y) || by < -2*slipMost || by > 2*slipMost {
		return impl.Net{}, false
	}
	steps := stepsOfNet(n)
	return netByRule(n.W, n.H, func(s step) int64 {
		if s.x == x && s.y > y && !s.up {
			return steps[s] + by
		}
		return steps[s]
	})
}

func shiftedByRule(n impl.Net, field []int64) (impl.Net, bool) {
	if !isNetByRule(n) || len(field) != int(n.W*n.H) || !allFrom(field, -slipMost, slipMost) {
		return impl.Net{}, false
	}
	rows := slices.Collect(slices.Chunk(field, int(n.W)))
	steps := stepsOfNet(n)
	return netByRule(n.W, n.H, func(s step) int64 {
		if s.up {
			return steps[s] + rows[s.y+1][s.x] - rows[s.y][s.x]
		}
		return steps[s] + rows[s.y][s.x+1] - rows[s.y][s.x]
	})
}

// squaresByRule: each square with its Burgers, noughts too, by y, then by x.
func squaresByRule(n impl.Net) []impl.Core {
	list, steps := []impl.Core{}, stepsOfNet(n)
	for y := range n.H - 1 {
		for x := range n.W - 1 {
			list = append(list, impl.Core{X: x, Y: y, B: loopByRule(steps, x, y, x+1, y+1)})
		}
	}
	return list
}

func coresByRule(n impl.Net) []impl.Core {
	if !isNetByRule(n) {
		return nil
	}
	return slices.DeleteFunc(squaresByRule(n), func(c impl.Core) bool { return c.B == 0 })
}

func (d *dice) net(w, h, most int64) impl.Net {
	return netOf(w, h, func(step) int64 { return d.between(-most, most) })
}

// wholeNet: no square of it has a Burgers, as its numbers are the differences
// of a field.
func (d *dice) wholeNet(w, h, most int64) impl.Net {
	n, _ := shiftedByRule(blankNet(w, h), d.numbers(int(w*h), most))
	return n
}

// nets: of which no square, some, or likely all have a Burgers.
func (d *dice) nets(w, h int64) []impl.Net {
	few := d.wholeNet(w, h, 100)
	if len(few.Right) > 0 {
		few.Right[d.between(0, int64(len(few.Right)-1))] += 9
	}
	return []impl.Net{
		blankNet(w, h), d.wholeNet(w, h, 5), d.wholeNet(w, h, slipMost/2), few,
		d.net(w, h, 1), d.net(w, h, 3), d.net(w, h, 1000), d.net(w, h, slipMost),
		netOf(w, h, func(s step) int64 { return slipMost * (1 - 2*((s.x+s.y)%2)) }),
	}
}

// smallNets: nets of all sizes up to most by most.
func (d *dice) smallNets(most int64) []impl.Net {
	list := []impl.Net{}
	for w := int64(1); w <= most; w++ {
		for h := int64(1); h <= most; h++ {
			list = append(list, d.nets(w, h)...)
		}
	}
	return list
}

// wrongNets: sizes that are none, with the numbers that would be theirs and
// without, and right sizes with one list that is spoilt.
func wrongNets() []impl.Net {
	list := []impl.Net{{}, {W: 1, H: 1, Up: []int64{1}}, {W: 1, H: 1, Right: []int64{0}}, {W: 2, H: 1}, {W: 1, H: 2}}
	for _, size := range []int64{-1, -2, -30, math.MinInt64, math.MinInt64 + 1, netMost + 1, netMost + 2, 1 << 32, 1<<32 + 1, 1 << 62, math.MaxInt64} {
		list = append(list, impl.Net{W: size, H: 1}, impl.Net{W: 1, H: size}, impl.Net{W: size, H: size}, impl.Net{W: size, H: 2, Right: []int64{0}, Up: []int64{0}})
	}
	for _, size := range []int64{1, 2, netMost, netMost + 1, netMost + 2} {
		list = append(list, blankNet(netMost+1, size), blankNet(size, netMost+1))
		list = append(list, impl.Net{W: 0, H: size}, impl.Net{W: size, H: 0}, blankNet(0, size), blankNet(size, 0))
	}
	for _, size := range [][2]int64{{1, 1}, {1, 3}, {3, 1}, {2, 2}, {2, 3}, {3, 2}, {netMost, netMost}} {
		list = append(list, spoiltNets(size[0], size[1])...)
	}
	return list
}

// spoiltNets: a net with a list that is too short, too long, or has a number
// out of range.
func spoiltNets(w, h int64) []impl.Net {
	list := []impl.Net{}
	for _, spoil := range []func([]int64) []int64{
		func(numbers []int64) []int64 { return append(numbers, 0) },
		func(numbers []int64) []int64 { return numbers[:max(len(numbers)-1, 0)] },
		func(numbers []int64) []int64 { return nil },
	} {
		wrongRight, wrongUp := blankNet(w, h), blankNet(w, h)
		wrongRight.Right, wrongUp.Up = spoil(wrongRight.Right), spoil(wrongUp.Up)
		list = append(list, wrongRight, wrongUp)
	}
	for _, n := range []int64{slipMost + 1, -slipMost - 1, 1 << 32, math.MaxInt64, math.MinInt64, math.MinInt64 + 1} {
		for _, share := range []int{0, 1, 2} {
			wrongRight, wrongUp := blankNet(w, h), blankNet(w, h)
			if count := len(wrongRight.Right); count > 0 {
				wrongRight.Right[share*(count-1)/2] = n
			}
			if count := len(wrongUp.Up); count > 0 {
				wrongUp.Up[share*(count-1)/2] = n
			}
			list = append(list, wrongRight, wrongUp)
		}
	}
	return slices.DeleteFunc(list, func(n impl.Net) bool { return sameNet(n, blankNet(w, h)) })
}
