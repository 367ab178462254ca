package tests

import (
	"math"
	"slices"
	"strconv"
	"strings"
	"sync"

	"loop.example/g00055/impl"
)

// The limits of chapter 12 as the document writes them.
const (
	sideMost   = 64
	countMost  = 65535
	framesMost = 100
	reachMost  = 5
	deadMost   = 4096
)

func frameOf(w, h int64, pix ...int64) impl.Frame { return impl.Frame{W: w, H: h, Pix: pix} }

func blankFrame(w, h int64) impl.Frame { return evenFrame(w, h, 0) }

func evenFrame(w, h, count int64) impl.Frame {
	return impl.Frame{W: w, H: h, Pix: filled(int(w*h), count)}
}

func cloneFrame(f impl.Frame) impl.Frame {
	return impl.Frame{W: f.W, H: f.H, Pix: slices.Clone(f.Pix)}
}

func sameFrame(a, b impl.Frame) bool {
	return a.W == b.W && a.H == b.H && slices.Equal(a.Pix, b.Pix)
}

func isZeroFrame(f impl.Frame) bool { return sameFrame(f, impl.Frame{}) }

func isFrameByRule(f impl.Frame) bool {
	return allFrom([]int64{f.W, f.H}, 1, sideMost) && int64(len(f.Pix)) == f.W*f.H && allFrom(f.Pix, 0, countMost)
}

func sumOfFrame(f impl.Frame) int64 {
	sum := int64(0)
	for _, count := range f.Pix {
		sum += count
	}
	return sum
}

// addByRule: what is lost is all that came, less all that stands there.
func addByRule(list []impl.Frame) (impl.Frame, int64) {
	if len(list) == 0 || len(list) > framesMost {
		return impl.Frame{}, 0
	}
	came := int64(0)
	for _, f := range list {
		if !isFrameByRule(f) || f.W != list[0].W || f.H != list[0].H {
			return impl.Frame{}, 0
		}
		came += sumOfFrame(f)
	}
	out := blankFrame(list[0].W, list[0].H)
	for i := range out.Pix {
		for _, f := range list {
			out.Pix[i] += f.Pix[i]
		}
		if out.Pix[i] > countMost {
			out.Pix[i] = countMost
		}
	}
	return out, came - sumOfFrame(out)
}

func maskedByRule(f impl.Frame, dead []int64) (impl.Frame, bool) {
	if !isFrameByRule(f) || len(dead) > deadMost || !allFrom(dead, 0, int64(len(f.Pix)-1)) {
		return impl.Frame{}, false
	}
	out := cloneFrame(f)
	for i := range out.Pix {
		if slices.Contains(dead, int64(i)) {
			out.Pix[i] = 0
		}
	}
	return out, true
}

// spotsByRule lays a rim of pixels that count less than all around the frame, so
// that each of its own has eight beside it: four with lower numbers, which have
// to count less, and four with greater ones, which may count as much.
func spotsByRule(f impl.Frame, level int64) []impl.Spot {
	out := []impl.Spot{}
	if !isFrameByRule(f) || level < 1 || level > countMost {
		return out
	}
	wide := int(f.W) + 2
	rimmed := filled(wide*(int(f.H)+2), -1)
	for y := range int(f.H) {
		copy(rimmed[(y+1)*wide+1:], f.Pix[y*int(f.W):(y+1)*int(f.W)])
	}
	for i, count := range rimmed {
		if count < level {
			continue
		}
		lower := max(rimmed[i-wide-1], rimmed[i-wide], rimmed[i-wide+1], rimmed[i-1])
		greater := max(rimmed[i+wide-1], rimmed[i+wide], rimmed[i+wide+1], rimmed[i+1])
		if lower < count && greater <= count {
			out = append(out, impl.Spot{X: int64(i%wide - 1), Y: int64(i/wide - 1), Peak: count})
		}
	}
	return out
}

func apart(a, b int64) int64 { return max(a-b, b-a) }

func areBeside(a, b impl.Spot) bool { return apart(a.X, b.X) <= 1 && apart(a.Y, b.Y) <= 1 }

// integrateByRule goes over all pixels, and asks each how far away it is.
func integrateByRule(f impl.Frame, x, y, r int64) (int64, int64, int64) {
	if !isFrameByRule(f) || x < 0 || x >= f.W || y < 0 || y >= f.H || r < 0 || r > reachMost {
		return 0, 0, 0
	}
	sum, count, around := int64(0), int64(0), int64(0)
	for i, n := range f.Pix {
		switch away := max(apart(int64(i)%f.W, x), apart(int64(i)/f.W, y)); {
		case away <= r:
			sum, count = sum+n, count+1
		case away == r+1:
			around += n
		}
	}
	return sum, count, around
}

// stepByRule writes a step by its bits as text: sevens from the end on, each as
// a byte with a 1 ahead, but for the last one.
func stepByRule(s int64) []byte {
	n := 2 * s
	if s < 0 {
		n = -2*s - 1
	}
	bits := strconv.FormatInt(n, 2)
	bits = strings.Repeat("0", (7-len(bits)%7)%7) + bits
	out := []byte{}
	for ; len(bits) > 0; bits = bits[:len(bits)-7] {
		ahead := "1"
		if len(bits) == 7 {
			ahead = "0"
		}
		group, _ := strconv.ParseUint(ahead+bits[len(bits)-7:], 2, 8)
		out = append(out, byte(group))
	}
	return out
}

func squeezeByRule(f impl.Frame) []byte {
	if !isFrameByRule(f) {
		return []byte{}
	}
	out := []byte{byte(f.W), byte(f.H)}
	for i, count := range f.Pix {
		if i > 0 {
			count -= f.Pix[i-1]
		}
		out = append(out, stepByRule(count)...)
	}
	return out
}

// allSteps tells of each text that a step between two counts is written by
// which step that is.
var allSteps = sync.OnceValue(func() map[string]int64 {
	out := map[string]int64{}
	for s := int64(-countMost); s <= countMost; s++ {
		out[string(stepByRule(s))] = s
	}
	return out
})

// unsqueezeByRule looks for each pixel whether a beginning of what is left is
// one of the texts that there are; none of these begins with another one.
func unsqueezeByRule(b []byte) (impl.Frame, int64) {
	if len(b) < 2 || b[0] < 1 || b[0] > sideMost || b[1] < 1 || b[1] > sideMost {
		return impl.Frame{}, 0
	}
	out, at, ahead := impl.Frame{W: int64(b[0]), H: int64(b[1])}, 2, int64(0)
	for range out.W * out.H {
		length := 0
		for n := 1; n <= min(3, len(b)-at) && length == 0; n++ {
			s, ok := allSteps()[string(b[at:at+n])]
			if ok && ahead+s >= 0 && ahead+s <= countMost {
				length, ahead = n, ahead+s
			}
		}
		if length == 0 {
			return impl.Frame{}, int64(at)
		}
		at += length
		out.Pix = append(out.Pix, ahead)
	}
	if at < len(b) {
		return impl.Frame{}, int64(at)
	}
	return out, -1
}

// endsByRule: where the bytes of each pixel end, from the head's end on.
func endsByRule(f impl.Frame) []int {
	ends, ahead := []int{2}, int64(0)
	for i, count := range f.Pix {
		ends = append(ends, ends[i]+len(stepByRule(count-ahead)))
		ahead = count
	}
	return ends
}

// ordersOf: all orders of the numbers below n.
func ordersOf(n int) [][]int {
	if n == 0 {
		return [][]int{{}}
	}
	out := [][]int{}
	for _, order := range ordersOf(n - 1) {
		for at := range n {
			out = append(out, slices.Insert(slices.Clone(order), at, n-1))
		}
	}
	return out
}

func (d *dice) counts(count int, most int64) []int64 {
	list := []int64{}
	for range count {
		list = append(list, d.between(0, most))
	}
	return list
}

func (d *dice) frameOf(w, h, most int64) impl.Frame {
	return impl.Frame{W: w, H: h, Pix: d.counts(int(w*h), most)}
}

// steppedFrame goes by steps of every length that bytes can have.
func (d *dice) steppedFrame(w, h int64) impl.Frame {
	f, ahead := impl.Frame{W: w, H: h}, int64(0)
	for range w * h {
		most := []int64{0, 1, 64, 65, 8192, 8193, countMost}[d.between(0, 6)]
		ahead = min(max(ahead+d.between(-most, most), 0), countMost)
		f.Pix = append(f.Pix, ahead)
	}
	return f
}

func sizes() [][2]int64 {
	return [][2]int64{{1, 1}, {2, 1}, {1, 2}, {7, 1}, {1, 7}, {sideMost, 1}, {1, sideMost}, {2, 2}, {3, 2}, {2, 3}, {5, 7}, {13, 9}, {sideMost, 3}, {4, sideMost}, {sideMost, sideMost}}
}

// frames: of all sizes, with counts of all ranges, blank ones and full ones.
func (d *dice) frames() []impl.Frame {
	out := []impl.Frame{}
	for _, size := range sizes() {
		w, h := size[0], size[1]
		out = append(out, blankFrame(w, h), evenFrame(w, h, 1), evenFrame(w, h, countMost), d.steppedFrame(w, h))
		for _, most := range []int64{1, 3, 100, 20000, countMost} {
			out = append(out, d.frameOf(w, h, most))
		}
	}
	return out
}

func handFrame() impl.Frame { return frameOf(3, 2, 5, 5, 0, 1, 0, 300) }

// wrongFrames has for each limit of a frame one that passes it.
func wrongFrames() []impl.Frame {
	out := []impl.Frame{{}, {W: 1, H: 1}, {W: 1, H: 1, Pix: []int64{}}, {Pix: []int64{1}}, frameOf(-1, -1, 1), frameOf(-2, -3, 1, 2, 3, 4, 5, 6)}
	for _, wrong := range []int64{0, -1, -2, 2, 4, sideMost + 1, -sideMost, 256 + 3, 1 << 32, 1<<32 + 3, 1 << 62, math.MaxInt64, math.MinInt64, math.MinInt64 + 1} {
		out = append(out, frameOf(wrong, 2, 1, 2, 3, 4, 5, 6), frameOf(2, wrong, 1, 2, 3, 4, 5, 6), frameOf(wrong, wrong, 1, 2, 3, 4, 5, 6), frameOf(wrong, 2), frameOf(2, wrong))
	}
	for _, size := range [][2]int64{{sideMost + 1, 1}, {1, sideMost + 1}, {sideMost + 1, 2}, {3, sideMost + 1}, {sideMost + 1, sideMost + 1}, {1, 256}, {257, 1}, {4096, 1}} {
		out = append(out, blankFrame(size[0], size[1]))
	}
	for _, size := range [][2]int64{{1, 1}, {3, 2}, {1, 5}, {sideMost, 1}, {sideMost, sideMost}} {
		w, h := size[0], size[1]
		count := int(w * h)
		for _, other := range []int{count - 1, count + 1, 0, 2 * count} {
			out = append(out, frameOf(w, h, make([]int64, other)...))
		}
		for _, number := range []int64{-1, countMost + 1, -countMost, 1 << 32, 1<<32 + 1, math.MaxInt64, math.MinInt64, math.MinInt64 + 1} {
			for _, place := range []int{0, count / 2, count - 1} {
				f := blankFrame(w, h)
				f.Pix[place] = number
				out = append(out, f)
			}
		}
	}
	return out
}
