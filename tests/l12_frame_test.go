package tests

import (
	"bytes"
	"math"
	"slices"
	"sync"
	"testing"

	"loop.example/g00055/impl"
)

func TestDetectorLimits(t *testing.T) {
	got := []int64{impl.MaxSide, impl.MaxCount, impl.MaxFrames, impl.MaxReach, impl.MaxList}
	if !slices.Equal(got, []int64{sideMost, countMost, framesMost, reachMost, deadMost}) {
		t.Error(got)
	}
}

func TestFramesAreRight(t *testing.T) {
	var d dice
	for _, f := range d.frames() {
		if !impl.FrameOk(f) || !isFrameByRule(f) {
			t.Error(f)
		}
		for _, wrong := range []int64{-1, countMost + 1, math.MinInt64, math.MaxInt64} {
			for _, place := range []int{0, len(f.Pix) / 2, len(f.Pix) - 1} {
				spoilt := cloneFrame(f)
				spoilt.Pix[place] = wrong
				if impl.FrameOk(spoilt) {
					t.Error(f, place, wrong)
				}
			}
		}
		if impl.FrameOk(frameOf(f.W, f.H, f.Pix[1:]...)) || impl.FrameOk(frameOf(f.W, f.H, append(slices.Clone(f.Pix), 0)...)) {
			t.Error(f)
		}
	}
}

// Every size around the limits, with just as many pixels as it would have.
func TestFrameSides(t *testing.T) {
	sides := []int64{-sideMost, -2, -1, 0, 1, 2, 3, sideMost - 1, sideMost, sideMost + 1, sideMost + 2, 128}
	for _, w := range sides {
		for _, h := range sides {
			f := frameOf(w, h, make([]int64, max(w*h, 0))...)
			want := w >= 1 && w <= sideMost && h >= 1 && h <= sideMost
			if impl.FrameOk(f) != want || (len(impl.Squeeze(f)) > 0) != want {
				t.Error(w, h)
			}
			if _, ok := impl.Masked(f, nil); ok != want {
				t.Error(w, h)
			}
			if got, lost := impl.AddFrames([]impl.Frame{f}); isZeroFrame(got) == want || lost != 0 {
				t.Error(w, h)
			}
			if _, count, _ := impl.Integrate(f, 0, 0, 0); (count == 1) != want {
				t.Error(w, h)
			}
		}
	}
}

// A frame that is not right is refused by each function alike.
func TestWrongFrames(t *testing.T) {
	for _, f := range wrongFrames() {
		if impl.FrameOk(f) || isFrameByRule(f) {
			t.Error(f)
		}
		if got, lost := impl.AddFrames([]impl.Frame{f}); !isZeroFrame(got) || lost != 0 {
			t.Error(f, got, lost)
		}
		for _, dead := range [][]int64{nil, {0}, {0, 0}} {
			if got, ok := impl.Masked(f, dead); ok || !isZeroFrame(got) {
				t.Error(f, dead, got)
			}
		}
		for _, level := range []int64{0, 1, 2, countMost} {
			if got := impl.Spots(f, level); len(got) != 0 {
				t.Error(f, level, got)
			}
		}
		for r := range int64(reachMost + 1) {
			for _, at := range [][2]int64{{0, 0}, {1, 0}, {0, 1}, {f.W - 1, f.H - 1}} {
				if sum, count, around := impl.Integrate(f, at[0], at[1], r); sum != 0 || count != 0 || around != 0 {
					t.Error(f, at, r, sum, count, around)
				}
			}
		}
		if got := impl.Squeeze(f); len(got) != 0 {
			t.Error(f, got)
		}
	}
}

func TestAddFramesByHand(t *testing.T) {
	const most = countMost
	for _, c := range []struct {
		list []impl.Frame
		want impl.Frame
		lost int64
	}{
		{[]impl.Frame{frameOf(1, 1, 0)}, frameOf(1, 1, 0), 0},
		{[]impl.Frame{frameOf(1, 1, most)}, frameOf(1, 1, most), 0},
		{[]impl.Frame{frameOf(1, 1, 7), frameOf(1, 1, 8)}, frameOf(1, 1, 15), 0},
		{[]impl.Frame{frameOf(1, 1, most-1), frameOf(1, 1, 1)}, frameOf(1, 1, most), 0},
		{[]impl.Frame{frameOf(1, 1, most), frameOf(1, 1, 1)}, frameOf(1, 1, most), 1},
		{[]impl.Frame{frameOf(1, 1, most), frameOf(1, 1, most), frameOf(1, 1, most)}, frameOf(1, 1, most), 2 * most},
		{[]impl.Frame{frameOf(3, 1, 1, 2, 3), frameOf(3, 1, 40, 50, 60), frameOf(3, 1, 700, 800, 900)}, frameOf(3, 1, 741, 852, 963), 0},
		{[]impl.Frame{frameOf(1, 3, 1, 2, 3), frameOf(1, 3, 40, 50, 60)}, frameOf(1, 3, 41, 52, 63), 0},
		{[]impl.Frame{frameOf(2, 2, 1, most, most-5, 0), frameOf(2, 2, 2, 3, 5, 0), frameOf(2, 2, 4, 6, 1, most)}, frameOf(2, 2, 7, most, most, most), 10},
		{[]impl.Frame{handFrame(), frameOf(3, 2, 0, 0, 0, 0, 0, 65400)}, frameOf(3, 2, 5, 5, 0, 1, 0, most), 165},
	} {
		got, lost := impl.AddFrames(c.list)
		if !sameFrame(got, c.want) || lost != c.lost {
			t.Error(c, got, lost)
		}
	}
}

func checkAdd(t *testing.T, list []impl.Frame) int64 {
	t.Helper()
	want, wantLost := addByRule(list)
	got, lost := impl.AddFrames(list)
	if !sameFrame(got, want) || lost != wantLost {
		t.Error(list, got, lost)
	}
	return lost
}

// P16: AddFrames hangs on no order where nothing is lost; and as what is lost is
// told of the whole sum, it hangs on none in any case.
func TestAddFramesInEveryOrder(t *testing.T) {
	var d dice
	kept, lossy := 0, 0
	for _, size := range [][2]int64{{1, 1}, {4, 1}, {1, 4}, {3, 2}, {6, 5}} {
		for count := 1; count <= 5; count++ {
			for _, most := range []int64{3, 10000, countMost / int64(count), countMost} {
				list := []impl.Frame{}
				for range count {
					list = append(list, d.frameOf(size[0], size[1], most))
				}
				want, lost := addByRule(list)
				for _, order := range ordersOf(count) {
					turned := []impl.Frame{}
					for _, i := range order {
						turned = append(turned, list[i])
					}
					if got, n := impl.AddFrames(turned); !sameFrame(got, want) || n != lost {
						t.Fatal(list, order, got, n)
					}
				}
				if lost == 0 {
					kept++
				} else {
					lossy++
				}
			}
		}
	}
	if min(kept, lossy) < 15 {
		t.Error("too few of a kind:", kept, lossy)
	}
}

// Sums that are below MaxCount, just it, and above it, at each pixel by itself.
func TestAddFramesAtJustMaxCount(t *testing.T) {
	var d dice
	for _, size := range sizes() {
		for _, count := range []int{2, 3, 7} {
			list, over := []impl.Frame{}, int64(0)
			for range count - 1 {
				list = append(list, d.frameOf(size[0], size[1], 9000))
			}
			sum, _ := addByRule(list)
			last := blankFrame(size[0], size[1])
			for i, n := range sum.Pix {
				by := d.between(-2, 2)
				last.Pix[i] = countMost - n + by
				if last.Pix[i] > countMost {
					last.Pix[i], by = 0, 0
				}
				over += max(by, 0)
			}
			if lost := checkAdd(t, append(list, last)); lost != over {
				t.Error(size, count, lost, over)
			}
			if lost := checkAdd(t, append([]impl.Frame{last}, list...)); lost != over {
				t.Error(size, count, lost, over)
			}
		}
	}
}

func TestAddFramesByParts(t *testing.T) {
	var d dice
	for range 200 {
		w, h := d.between(1, 9), d.between(1, 9)
		a, b, c := d.frameOf(w, h, 21845), d.frameOf(w, h, 21845), d.frameOf(w, h, 21845)
		whole, lost := impl.AddFrames([]impl.Frame{a, b, c})
		part, _ := impl.AddFrames([]impl.Frame{b, c})
		if got, n := impl.AddFrames([]impl.Frame{a, part}); lost != 0 || n != 0 || !sameFrame(got, whole) {
			t.Error(a, b, c, got)
		}
		if got, n := impl.AddFrames([]impl.Frame{a, blankFrame(w, h)}); n != 0 || !sameFrame(got, a) {
			t.Error(a, got)
		}
	}
}

func TestAddFramesLimits(t *testing.T) {
	for _, size := range [][2]int64{{1, 1}, {5, 1}, {1, 6}, {sideMost, sideMost}} {
		pixels := size[0] * size[1]
		for _, count := range []int64{0, 1, 2, framesMost - 1, framesMost, framesMost + 1, framesMost + 2, 1000} {
			ones, full := []impl.Frame{}, []impl.Frame{}
			one, all := evenFrame(size[0], size[1], 1), evenFrame(size[0], size[1], countMost)
			for range count {
				ones, full = append(ones, one), append(full, all)
			}
			got, lost := impl.AddFrames(ones)
			most, over := impl.AddFrames(full)
			if count < 1 || count > framesMost {
				if !isZeroFrame(got) || lost != 0 || !isZeroFrame(most) || over != 0 {
					t.Error(size, count, lost, over)
				}
				continue
			}
			if !sameFrame(got, evenFrame(size[0], size[1], count)) || lost != 0 {
				t.Error(size, count, lost)
			}
			if !sameFrame(most, all) || over != (count-1)*countMost*pixels {
				t.Error(size, count, over)
			}
		}
	}
	for _, list := range [][]impl.Frame{nil, {}, make([]impl.Frame, 0, 4)} {
		if got, lost := impl.AddFrames(list); !isZeroFrame(got) || lost != 0 {
			t.Error(got, lost)
		}
	}
}

// One that is not right among right ones, and one of another size: wherever it
// stands, and also where sums would be lost.
func TestAddFramesRefuses(t *testing.T) {
	right := evenFrame(2, 3, 60000)
	others := append(wrongFrames(), evenFrame(3, 2, 1), evenFrame(6, 1, 1), evenFrame(1, 6, 1), evenFrame(2, 2, 1), evenFrame(2, 4, 1), evenFrame(3, 3, 1), evenFrame(1, 3, 1), evenFrame(1, 1, 1), evenFrame(sideMost, sideMost, 1))
	for _, count := range []int{2, 3, 5} {
		for _, other := range others {
			for place := range count {
				list := slices.Repeat([]impl.Frame{right}, count)
				list[place] = other
				if got, lost := impl.AddFrames(list); !isZeroFrame(got) || lost != 0 {
					t.Error(count, place, other, got, lost)
				}
			}
		}
	}
	list := slices.Repeat([]impl.Frame{right}, framesMost)
	if got, lost := impl.AddFrames(list); !sameFrame(got, evenFrame(2, 3, countMost)) || lost != 6*(framesMost*60000-countMost) {
		t.Error(got, lost)
	}
	list[framesMost-1] = frameOf(2, 3, 1, 1, 1, 1, 1, -1)
	if got, lost := impl.AddFrames(list); !isZeroFrame(got) || lost != 0 {
		t.Error(got, lost)
	}
}

func TestMaskedByHand(t *testing.T) {
	for _, c := range []struct{ dead, want []int64 }{
		{nil, []int64{5, 5, 0, 1, 0, 300}}, {[]int64{}, []int64{5, 5, 0, 1, 0, 300}},
		{[]int64{0}, []int64{0, 5, 0, 1, 0, 300}}, {[]int64{5}, []int64{5, 5, 0, 1, 0, 0}}, {[]int64{3}, []int64{5, 5, 0, 0, 0, 300}},
		{[]int64{5, 0}, []int64{0, 5, 0, 1, 0, 0}}, {[]int64{0, 5}, []int64{0, 5, 0, 1, 0, 0}}, {[]int64{2}, []int64{5, 5, 0, 1, 0, 300}},
		{[]int64{1, 1}, []int64{5, 0, 0, 1, 0, 300}}, {[]int64{1, 3, 1, 3, 1}, []int64{5, 0, 0, 0, 0, 300}},
		{[]int64{0, 1, 2, 3, 4, 5}, make([]int64, 6)}, {[]int64{5, 4, 3, 2, 1, 0, 5}, make([]int64, 6)},
	} {
		if got, ok := impl.Masked(handFrame(), c.dead); !ok || !sameFrame(got, frameOf(3, 2, c.want...)) {
			t.Error(c, got, ok)
		}
	}
}

func checkMasked(t *testing.T, f impl.Frame, dead []int64) bool {
	t.Helper()
	want, right := maskedByRule(f, dead)
	got, ok := impl.Masked(f, dead)
	if ok != right || !sameFrame(got, want) {
		t.Error(f, dead, got, ok)
	}
	return ok
}

func TestMaskedByRule(t *testing.T) {
	var d dice
	for _, f := range d.frames() {
		pixels := int64(len(f.Pix))
		all := []int64{}
		for number := range pixels {
			all = append(all, number)
		}
		checkMasked(t, f, nil)
		if got, ok := impl.Masked(f, all); !ok || !sameFrame(got, blankFrame(f.W, f.H)) {
			t.Error(f, got, ok)
		}
		for _, count := range []int{1, 2, 5, 30} {
			dead := []int64{}
			for range count {
				dead = append(dead, d.between(0, pixels-1))
			}
			if !checkMasked(t, f, dead) || !checkMasked(t, f, slices.Concat(dead, dead)) {
				t.Error(f, dead)
			}
		}
		for _, number := range []int64{0, pixels / 2, pixels - 1} {
			got, ok := impl.Masked(f, []int64{number})
			want := cloneFrame(f)
			want.Pix[number] = 0
			if !ok || !sameFrame(got, want) {
				t.Error(f, number, got)
			}
		}
	}
}

func TestMaskedRefuses(t *testing.T) {
	for _, size := range sizes() {
		pixels := size[0] * size[1]
		f := evenFrame(size[0], size[1], 9)
		for _, wrong := range []int64{-1, -2, -pixels, pixels, pixels + 1, 1 << 32, 1<<32 + 1, math.MaxInt64, math.MinInt64, math.MinInt64 + 1} {
			for _, dead := range [][]int64{{wrong}, {0, wrong}, {wrong, 0}, {pixels - 1, wrong, 0}, {wrong, wrong}} {
				if got, ok := impl.Masked(f, dead); ok || !isZeroFrame(got) {
					t.Error(size, dead, got)
				}
			}
		}
	}
}

func TestMaskedLimits(t *testing.T) {
	for _, f := range []impl.Frame{evenFrame(1, 1, 7), evenFrame(2, 2, 7), evenFrame(sideMost, sideMost, 7)} {
		last := int64(len(f.Pix) - 1)
		for count, want := range map[int]bool{deadMost - 1: true, deadMost: true, deadMost + 1: false, deadMost + 2: false, 3 * deadMost: false} {
			got, ok := impl.Masked(f, filled(count, last))
			if ok != want || ok && (got.Pix[last] != 0 || sumOfFrame(got) != 7*last) || !ok && !isZeroFrame(got) {
				t.Error(f.W, count, ok)
			}
			dead := filled(count, last)
			dead[count-1] = last + 1
			if got, ok := impl.Masked(f, dead); ok || !isZeroFrame(got) {
				t.Error(f.W, count, ok)
			}
		}
	}
}

func TestSpotsByHand(t *testing.T) {
	type spots = []impl.Spot
	for _, c := range []struct {
		f     impl.Frame
		level int64
		want  spots
	}{
		{handFrame(), 2, spots{{X: 0, Y: 0, Peak: 5}, {X: 2, Y: 1, Peak: 300}}},
		{handFrame(), 5, spots{{X: 0, Y: 0, Peak: 5}, {X: 2, Y: 1, Peak: 300}}},
		{handFrame(), 6, spots{{X: 2, Y: 1, Peak: 300}}}, {handFrame(), 300, spots{{X: 2, Y: 1, Peak: 300}}}, {handFrame(), 301, nil},
		{frameOf(1, 1, 0), 1, nil}, {frameOf(1, 1, 1), 1, spots{{Peak: 1}}}, {frameOf(1, 1, 1), 2, nil},
		{frameOf(1, 1, countMost), countMost, spots{{Peak: countMost}}}, {frameOf(1, 1, countMost-1), countMost, nil},
		// rows and columns
		{frameOf(5, 1, 3, 1, 2, 1, 3), 1, spots{{X: 0, Peak: 3}, {X: 2, Peak: 2}, {X: 4, Peak: 3}}},
		{frameOf(5, 1, 3, 1, 2, 1, 3), 3, spots{{X: 0, Peak: 3}, {X: 4, Peak: 3}}},
		{frameOf(1, 5, 3, 1, 2, 1, 3), 1, spots{{Y: 0, Peak: 3}, {Y: 2, Peak: 2}, {Y: 4, Peak: 3}}},
		{frameOf(5, 1, 1, 2, 3, 4, 5), 1, spots{{X: 4, Peak: 5}}}, {frameOf(1, 5, 5, 4, 3, 2, 1), 1, spots{{Y: 0, Peak: 5}}},
		{frameOf(5, 1, 4, 4, 4, 4, 4), 1, spots{{X: 0, Peak: 4}}}, {frameOf(1, 5, 4, 4, 4, 4, 4), 1, spots{{Y: 0, Peak: 4}}},
		{frameOf(6, 1, 4, 4, 2, 4, 4, 5), 1, spots{{X: 0, Peak: 4}, {X: 3, Peak: 4}, {X: 5, Peak: 5}}},
		// one beside another, straight and across
		{frameOf(3, 3, 9, 8, 9, 8, 7, 8, 9, 8, 9), 1, spots{{X: 0, Y: 0, Peak: 9}, {X: 2, Y: 0, Peak: 9}, {X: 0, Y: 2, Peak: 9}, {X: 2, Y: 2, Peak: 9}}},
		{frameOf(3, 3, 8, 9, 8, 9, 7, 9, 8, 9, 8), 1, spots{{X: 1, Y: 0, Peak: 9}}},
		{frameOf(2, 2, 1, 2, 3, 4), 1, spots{{X: 1, Y: 1, Peak: 4}}}, {frameOf(2, 2, 4, 3, 2, 1), 1, spots{{X: 0, Y: 0, Peak: 4}}},
		{frameOf(2, 2, 1, 4, 4, 1), 1, spots{{X: 1, Y: 0, Peak: 4}}}, {frameOf(2, 2, 4, 1, 1, 4), 1, spots{{X: 0, Y: 0, Peak: 4}}},
		// a plateau whose first pixel is not the only one with none ahead of it
		{frameOf(3, 2, 6, 0, 6, 6, 6, 6), 1, spots{{X: 0, Y: 0, Peak: 6}, {X: 2, Y: 0, Peak: 6}}},
		{frameOf(3, 3, 0, 0, 6, 0, 6, 0, 6, 0, 0), 1, spots{{X: 2, Y: 0, Peak: 6}}},
		{frameOf(4, 2, 0, 0, 0, 6, 6, 6, 6, 0), 1, spots{{X: 3, Y: 0, Peak: 6}, {X: 0, Y: 1, Peak: 6}}},
		// a plateau that touches something greater
		{frameOf(3, 2, 6, 6, 6, 0, 0, 7), 1, spots{{X: 0, Y: 0, Peak: 6}, {X: 2, Y: 1, Peak: 7}}},
		{frameOf(3, 2, 6, 6, 6, 7, 0, 0), 1, spots{{X: 0, Y: 1, Peak: 7}}},
		// the end of one row is not beside the beginning of the next
		{frameOf(3, 3, 0, 0, 5, 5, 0, 0, 0, 0, 0), 1, spots{{X: 2, Y: 0, Peak: 5}, {X: 0, Y: 1, Peak: 5}}},
		{frameOf(3, 3, 0, 0, 5, 6, 0, 0, 0, 0, 4), 1, spots{{X: 2, Y: 0, Peak: 5}, {X: 0, Y: 1, Peak: 6}, {X: 2, Y: 2, Peak: 4}}},
	} {
		if got := impl.Spots(c.f, c.level); !slices.Equal(got, c.want) {
			t.Error(c, got)
		}
	}
}

// checkSpots holds spots against the rule, and two by two against one another.
func checkSpots(t *testing.T, f impl.Frame, level int64) int {
	t.Helper()
	got := impl.Spots(f, level)
	if !slices.Equal(got, spotsByRule(f, level)) {
		t.Error(f, level, got)
	}
	for i, a := range got {
		if a.Peak < level || f.Pix[a.Y*f.W+a.X] != a.Peak {
			t.Error(f, level, a)
		}
		for _, b := range got[:i] {
			if areBeside(a, b) || b.Y*f.W+b.X >= a.Y*f.W+a.X {
				t.Error(f, level, a, b)
			}
		}
	}
	return len(got)
}

// P16: no two Spots lie beside one another; plateaus of every form that fits
// into small frames.
func TestSpotsOfAllSmallFrames(t *testing.T) {
	many := 0
	for _, c := range []struct{ w, h, most int64 }{{1, 1, 5}, {8, 1, 2}, {1, 8, 2}, {2, 2, 4}, {3, 3, 2}, {2, 4, 2}, {4, 2, 2}, {5, 2, 1}, {2, 6, 1}, {4, 3, 1}, {3, 4, 1}} {
		for _, pix := range smallSurfaces(int(c.w*c.h), c.most) {
			for level := range c.most + 1 {
				if checkSpots(t, frameOf(c.w, c.h, pix...), level+1) > 1 {
					many++
				}
			}
		}
	}
	if many < 10000 {
		t.Error("too few with more than one:", many)
	}
}

func TestSpotsByRule(t *testing.T) {
	var d dice
	found := 0
	for _, f := range d.frames() {
		peak := slices.Max(f.Pix)
		for _, level := range []int64{1, 2, peak / 2, peak - 1, peak, peak + 1, countMost} {
			found += checkSpots(t, f, level)
		}
		if peak > 0 && len(impl.Spots(f, peak)) == 0 || peak < countMost && len(impl.Spots(f, peak+1)) != 0 {
			t.Error(f, peak)
		}
	}
	if found < 3000 {
		t.Error("too few spots:", found)
	}
}

// One pixel that counts: in the middle, at each edge and in each corner; with
// levels below it, at it and above it, and with another one everywhere else.
func TestSpotsAtEveryPixel(t *testing.T) {
	for _, size := range [][2]int64{{1, 1}, {6, 1}, {1, 6}, {2, 2}, {5, 4}} {
		for number := range size[0] * size[1] {
			f := blankFrame(size[0], size[1])
			f.Pix[number] = 40
			want := []impl.Spot{{X: number % f.W, Y: number / f.W, Peak: 40}}
			for level, sees := range map[int64]bool{-1: false, 0: false, 1: true, 39: true, 40: true, 41: false, countMost: false, countMost + 1: false} {
				got := impl.Spots(f, level)
				if sees && !slices.Equal(got, want) || !sees && len(got) != 0 {
					t.Error(f, level, got)
				}
			}
			for other := range f.Pix {
				for _, count := range []int64{39, 40, 41} {
					two := cloneFrame(f)
					two.Pix[other] = count
					checkSpots(t, two, 1)
				}
			}
		}
	}
}

func TestSpotsLevels(t *testing.T) {
	for _, f := range []impl.Frame{evenFrame(1, 1, countMost), evenFrame(3, 2, countMost), evenFrame(sideMost, sideMost, countMost)} {
		for _, level := range []int64{1, 2, countMost - 1, countMost} {
			if got := impl.Spots(f, level); !slices.Equal(got, []impl.Spot{{Peak: countMost}}) {
				t.Error(level, got)
			}
		}
		for _, level := range []int64{0, -1, countMost + 1, countMost + 2, -countMost, 1 << 32, 1<<32 + 1, math.MaxInt64, math.MinInt64, math.MinInt64 + 1} {
			if got := impl.Spots(f, level); len(got) != 0 {
				t.Error(level, got)
			}
		}
	}
}

// Spots of a raised level are those of the lower one that reach it.
func TestSpotsOfRisingLevels(t *testing.T) {
	var d dice
	for range 100 {
		f := d.frameOf(d.between(1, 12), d.between(1, 12), 9)
		all := impl.Spots(f, 1)
		for level := int64(2); level < 11; level++ {
			want := slices.DeleteFunc(slices.Clone(all), func(s impl.Spot) bool { return s.Peak < level })
			if got := impl.Spots(f, level); !slices.Equal(got, want) {
				t.Error(f, level, got)
			}
		}
	}
}

func TestIntegrateByHand(t *testing.T) {
	// each pixel a digit of its own
	f := frameOf(3, 3, 1, 2, 4, 8, 16, 32, 64, 128, 256)
	row := frameOf(5, 1, 1, 10, 100, 1000, 10000)
	column := frameOf(1, 5, 1, 10, 100, 1000, 10000)
	for _, c := range []struct {
		f                  impl.Frame
		x, y, r            int64
		sum, count, around int64
	}{
		{handFrame(), 0, 0, 0, 5, 1, 6}, {frameOf(1, 1, 7), 0, 0, 0, 7, 1, 0}, {frameOf(1, 1, 7), 0, 0, 5, 7, 1, 0},
		{f, 1, 1, 0, 16, 1, 511 - 16}, {f, 1, 1, 1, 511, 9, 0}, {f, 1, 1, 5, 511, 9, 0},
		{f, 0, 0, 0, 1, 1, 2 + 8 + 16}, {f, 2, 0, 0, 4, 1, 2 + 16 + 32}, {f, 0, 2, 0, 64, 1, 8 + 16 + 128}, {f, 2, 2, 0, 256, 1, 16 + 32 + 128},
		{f, 0, 0, 1, 27, 4, 511 - 27}, {f, 2, 0, 1, 54, 4, 511 - 54}, {f, 0, 2, 1, 216, 4, 511 - 216}, {f, 2, 2, 1, 432, 4, 511 - 432},
		{f, 1, 0, 0, 2, 1, 1 + 4 + 8 + 16 + 32}, {f, 1, 0, 1, 63, 6, 448}, {f, 0, 1, 0, 8, 1, 1 + 2 + 16 + 64 + 128}, {f, 0, 1, 1, 219, 6, 292}, {f, 0, 1, 2, 511, 9, 0},
		{row, 0, 0, 0, 1, 1, 10}, {row, 0, 0, 1, 11, 2, 100}, {row, 2, 0, 1, 1110, 3, 10001}, {row, 4, 0, 3, 11110, 4, 1}, {row, 4, 0, 4, 11111, 5, 0},
		{column, 0, 0, 0, 1, 1, 10}, {column, 0, 2, 1, 1110, 3, 10001}, {column, 0, 4, 3, 11110, 4, 1}, {column, 0, 4, 5, 11111, 5, 0},
	} {
		if sum, count, around := impl.Integrate(c.f, c.x, c.y, c.r); sum != c.sum || count != c.count || around != c.around {
			t.Error(c, sum, count, around)
		}
	}
}

func checkIntegrate(t *testing.T, f impl.Frame, x, y, r int64) {
	t.Helper()
	wantSum, wantCount, wantAround := integrateByRule(f, x, y, r)
	if sum, count, around := impl.Integrate(f, x, y, r); sum != wantSum || count != wantCount || around != wantAround {
		t.Error(f, x, y, r, sum, count, around)
	}
}

// Every reach at every pixel: frames that a reach passes on all sides, on some,
// and on none.
func TestIntegrateByRule(t *testing.T) {
	var d dice
	for _, size := range [][2]int64{{1, 1}, {2, 1}, {1, 2}, {9, 1}, {1, 9}, {2, 2}, {3, 5}, {7, 6}, {12, 13}, {14, 3}} {
		for _, f := range []impl.Frame{evenFrame(size[0], size[1], 1), d.frameOf(size[0], size[1], countMost), evenFrame(size[0], size[1], countMost)} {
			for x := range f.W {
				for y := range f.H {
					for r := range int64(reachMost + 1) {
						checkIntegrate(t, f, x, y, r)
					}
				}
			}
		}
	}
	f := d.frameOf(sideMost, sideMost, countMost)
	for _, x := range []int64{0, 1, 4, 5, 6, 31, 57, 58, 59, 62, 63} {
		for _, y := range []int64{0, 1, 4, 5, 6, 31, 57, 58, 59, 62, 63} {
			for r := range int64(reachMost + 1) {
				checkIntegrate(t, f, x, y, r)
			}
		}
	}
}

// Where a reach and the ring around it lie in the frame, they have just so many
// pixels.
func TestIntegrateCounts(t *testing.T) {
	f := evenFrame(13, 13, 1)
	for r := range int64(reachMost + 1) {
		sum, count, around := impl.Integrate(f, 6, 6, r)
		if side := 2*r + 1; sum != side*side || count != side*side || around != 4*side+4 {
			t.Error(r, sum, count, around)
		}
		if _, count, around := impl.Integrate(f, 0, 0, r); count != (r+1)*(r+1) || around != 2*r+3 {
			t.Error(r, count, around)
		}
	}
}

// What a reach has, and the ring around it, is what the next reach has.
func TestIntegrateGrowingReach(t *testing.T) {
	var d dice
	for range 300 {
		f := d.frameOf(d.between(1, 20), d.between(1, 20), countMost)
		x, y := d.between(0, f.W-1), d.between(0, f.H-1)
		for r := range int64(reachMost) {
			sum, count, around := impl.Integrate(f, x, y, r)
			next, more, _ := impl.Integrate(f, x, y, r+1)
			if next != sum+around || more < count {
				t.Error(f, x, y, r)
			}
		}
	}
}

func TestIntegrateRefuses(t *testing.T) {
	for _, size := range [][2]int64{{1, 1}, {4, 3}, {3, 4}, {sideMost, sideMost}} {
		f := evenFrame(size[0], size[1], 5)
		for _, x := range edgePlaces(size[0]) {
			checkIntegrate(t, f, x, 0, 0)
			checkIntegrate(t, f, x, size[1]-1, reachMost)
			checkIntegrate(t, f, x, size[1], 1)
			checkIntegrate(t, f, x, x, 1)
		}
		for _, y := range edgePlaces(size[1]) {
			checkIntegrate(t, f, 0, y, 0)
			checkIntegrate(t, f, size[0]-1, y, reachMost)
			checkIntegrate(t, f, size[0], y, 1)
			checkIntegrate(t, f, -1, y, 1)
		}
		for r := int64(-7); r < 70; r++ {
			checkIntegrate(t, f, 0, 0, r)
		}
		for _, r := range edgePlaces(reachMost) {
			sum, count, around := impl.Integrate(f, 0, 0, r)
			if fits := r >= 0 && r <= reachMost; fits != (sum >= 5 && count >= 1) || !fits && (sum != 0 || count != 0 || around != 0) {
				t.Error(size, r, sum, count, around)
			}
		}
	}
}

// The steps at which a pixel's bytes become one more, on both sides.
func TestSqueezedSteps(t *testing.T) {
	for _, c := range []struct {
		step int64
		want []byte
	}{
		{0, []byte{0}}, {1, []byte{2}}, {-1, []byte{1}}, {2, []byte{4}}, {-2, []byte{3}},
		{63, []byte{126}}, {64, []byte{128, 1}}, {-64, []byte{127}}, {-65, []byte{129, 1}}, {65, []byte{130, 1}}, {-63, []byte{125}},
		{8191, []byte{254, 127}}, {8192, []byte{128, 128, 1}}, {-8192, []byte{255, 127}}, {-8193, []byte{129, 128, 1}}, {-8191, []byte{253, 127}},
		{countMost, []byte{254, 255, 7}}, {-countMost, []byte{253, 255, 7}}, {countMost - 1, []byte{252, 255, 7}}, {1 - countMost, []byte{251, 255, 7}},
	} {
		if !bytes.Equal(stepByRule(c.step), c.want) {
			t.Error(c, stepByRule(c.step))
		}
		for _, first := range []int64{0, -c.step, countMost, countMost - c.step, 9000, 20000, 56000} {
			last := first + c.step
			if min(first, last) < 0 || max(first, last) > countMost {
				continue
			}
			f := frameOf(1, 2, first, last)
			want := slices.Concat([]byte{1, 2}, stepByRule(first), c.want)
			if got := impl.Squeeze(f); !bytes.Equal(got, want) {
				t.Error(c, first, got)
			}
			if got, at := impl.Unsqueeze(want); at != -1 || !sameFrame(got, f) {
				t.Error(c, first, got, at)
			}
		}
	}
}

func TestSqueezeByHand(t *testing.T) {
	for _, c := range []struct {
		f    impl.Frame
		want []byte
	}{
		{frameOf(1, 1, 0), []byte{1, 1, 0}}, {frameOf(1, 1, 1), []byte{1, 1, 2}}, {frameOf(1, 1, countMost), []byte{1, 1, 254, 255, 7}},
		{frameOf(2, 2, 3, 1, 1, 100), []byte{2, 2, 6, 3, 0, 198, 1}},
		{frameOf(3, 1, 64, 0, 63), []byte{3, 1, 128, 1, 127, 126}}, {frameOf(1, 3, 64, 0, 63), []byte{1, 3, 128, 1, 127, 126}},
		{frameOf(3, 2, 5, 5, 0, 1, 0, 300), []byte{3, 2, 10, 0, 9, 2, 1, 216, 4}},
		{frameOf(2, 1, countMost, 0), []byte{2, 1, 254, 255, 7, 253, 255, 7}},
	} {
		if got := impl.Squeeze(c.f); !bytes.Equal(got, c.want) {
			t.Error(c, got)
		}
		if got, at := impl.Unsqueeze(c.want); at != -1 || !sameFrame(got, c.f) {
			t.Error(c, got, at)
		}
	}
}

// P16: Unsqueeze of Squeeze is the frame.
func checkSqueezed(t *testing.T, f impl.Frame) {
	t.Helper()
	b := impl.Squeeze(f)
	if !bytes.Equal(b, squeezeByRule(f)) {
		t.Error(f, b)
	}
	if got, at := impl.Unsqueeze(b); at != -1 || !sameFrame(got, f) {
		t.Error(f, b, got, at)
	}
}

func TestSqueezeThereAndBack(t *testing.T) {
	var d dice
	for _, f := range d.frames() {
		checkSqueezed(t, f)
	}
	for range 500 {
		checkSqueezed(t, d.steppedFrame(d.between(1, 10), d.between(1, 10)))
	}
	full := blankFrame(sideMost, sideMost)
	for i := range full.Pix {
		full.Pix[i] = int64(1-i%2) * countMost
	}
	checkSqueezed(t, full)
	if got := impl.Squeeze(full); len(got) != 2+3*sideMost*sideMost {
		t.Error(len(got))
	}
	if got := impl.Squeeze(blankFrame(sideMost, sideMost)); len(got) != 2+sideMost*sideMost || got[0] != sideMost || got[1] != sideMost {
		t.Error(len(got))
	}
}

func TestSqueezeEveryStep(t *testing.T) {
	for s := int64(-countMost); s <= countMost; s++ {
		checkSqueezed(t, frameOf(2, 1, max(-s, 0), max(s, 0)))
	}
}

func checkUnsqueeze(t *testing.T, b []byte) int64 {
	t.Helper()
	want, place := unsqueezeByRule(b)
	got, at := impl.Unsqueeze(b)
	if at != place || !sameFrame(got, want) {
		t.Error(b, got, at)
	}
	return at
}

// checkTold: of these bytes no frame, and that place.
func checkTold(t *testing.T, b []byte, want int) {
	t.Helper()
	if got, at := impl.Unsqueeze(b); at != int64(want) || !isZeroFrame(got) {
		t.Error(b, got, at, want)
	}
}

// Two bytes that are W and H, or not, with all the pixels behind them or none.
func TestUnsqueezeHeads(t *testing.T) {
	for _, b := range [][]byte{nil, {}, {0}, {1}, {sideMost}, {255}} {
		checkTold(t, b, 0)
	}
	for w := range 256 {
		for h := range 256 {
			head := []byte{byte(w), byte(h)}
			right := w >= 1 && w <= sideMost && h >= 1 && h <= sideMost
			if !right {
				checkTold(t, head, 0)
				checkTold(t, append(head, 0, 0, 0, 0), 0)
				checkTold(t, append(head, 128), 0)
				continue
			}
			checkTold(t, head, 2)
			checkTold(t, append(head, 128), 2)
			checkTold(t, append(head, 1), 2)
			if w*h > 1 {
				checkTold(t, append(head, 0), 3)
			}
		}
	}
	for _, w := range []int64{1, 2, sideMost} {
		for _, h := range []int64{1, 3, sideMost} {
			b := make([]byte, 2+w*h)
			b[0], b[1] = byte(w), byte(h)
			if got, at := impl.Unsqueeze(b); at != -1 || !sameFrame(got, blankFrame(w, h)) {
				t.Error(w, h, got, at)
			}
			checkTold(t, b[:len(b)-1], len(b)-1)
			checkTold(t, append(b, 0), len(b))
		}
	}
	for _, wrong := range [][2]byte{{0, 1}, {1, 0}, {sideMost + 1, 1}, {1, sideMost + 1}, {128, 1}, {1, 128 + 1}, {255, 255}} {
		checkTold(t, append(wrong[:], make([]byte, 70)...), 0)
	}
}

// Bytes cut behind every one of them.
func TestUnsqueezeCut(t *testing.T) {
	var d dice
	within := 0
	for _, f := range d.frames() {
		b, ends := squeezeByRule(f), endsByRule(f)
		if len(b) > 2000 {
			continue
		}
		last := 0
		for cut := range len(b) {
			if slices.Contains(ends, cut) {
				last = cut
			} else if cut > 2 {
				within++
			}
			checkTold(t, b[:cut], last)
			checkTold(t, b[:cut:cut], last)
		}
	}
	if within < 500 {
		t.Error("too few were cut within a pixel:", within)
	}
}

// One byte changed to every other one.
func TestUnsqueezeChanged(t *testing.T) {
	var d dice
	right, wrong := 0, 0
	list := []impl.Frame{frameOf(1, 1, 0), frameOf(1, 1, 70), frameOf(1, 1, countMost), handFrame(), frameOf(5, 1, 0, countMost, 0, 64, 8256), d.steppedFrame(2, 3), d.steppedFrame(4, 4), d.steppedFrame(7, 3)}
	for _, f := range list {
		for place := range squeezeByRule(f) {
			for value := range 256 {
				b := squeezeByRule(f)
				b[place] = byte(value)
				if checkUnsqueeze(t, b) == -1 {
					right++
				} else {
					wrong++
				}
			}
		}
	}
	if min(right, wrong) < 1000 {
		t.Error("too few of a kind:", right, wrong)
	}
}

// One byte taken, laid twice, or laid between.
func TestUnsqueezeMoved(t *testing.T) {
	var d dice
	for _, f := range []impl.Frame{frameOf(1, 1, countMost), handFrame(), d.steppedFrame(3, 3), d.steppedFrame(5, 2), d.steppedFrame(1, 12)} {
		whole := squeezeByRule(f)
		for place := range whole {
			checkUnsqueeze(t, slices.Delete(slices.Clone(whole), place, place+1))
			checkUnsqueeze(t, slices.Insert(slices.Clone(whole), place, whole[place]))
			for _, value := range []byte{0, 1, 2, 127, 128, 129, 255} {
				checkUnsqueeze(t, slices.Insert(slices.Clone(whole), place, value))
			}
		}
	}
}

// wrongSteps: bytes that are no step, or one that no count before it allows.
func wrongSteps(ahead int64) [][]byte {
	out := [][]byte{
		{128, 0}, {129, 0}, {255, 0}, {254, 0}, {128, 128, 0}, {129, 128, 0}, {255, 255, 0}, {128, 129, 0}, // a last byte of 0
		{128, 128, 128, 0}, {128, 128, 128, 128, 128, 128, 128, 128, 128, 128, 0},
		{128, 128, 128, 1}, {129, 128, 128, 1}, {255, 255, 255, 127}, {254, 255, 255, 1}, {130, 128, 128, 128, 1}, // a group too many
		{130, 128, 128, 128, 16}, {130, 128, 128, 128, 32}, {130, 128, 128, 128, 128, 128, 128, 128, 128, 1}, {130, 128, 128, 128, 128, 128, 128, 128, 128, 2},
		{130, 128, 128, 128, 128, 128, 128, 128, 128, 128, 1}, slices.Concat(bytes.Repeat([]byte{128}, 63), []byte{1}), slices.Concat([]byte{130}, bytes.Repeat([]byte{128}, 5000), []byte{1}),
		stepByRule(countMost - ahead + 1), stepByRule(-ahead - 1), // a pixel by one above MaxCount, by one below 0
		stepByRule(countMost + 1), stepByRule(-countMost - 1), stepByRule(2 * countMost), stepByRule(-2 * countMost),
		stepByRule(1 << 19), stepByRule(-1 << 19), {254, 255, 127}, {255, 255, 127}, {255, 255, 8}, {128, 128, 8},
	}
	for _, s := range []int64{0, 1, -1, 63, -64, 64, -65, 8191, 8192} {
		if n := ahead + s; n >= 0 && n <= countMost {
			long := stepByRule(s)
			long[len(long)-1] |= 128
			out = append(out, append(long, 0), slices.Concat(long, []byte{128, 0}))
		}
	}
	return out
}

// One pixel's bytes are no longer right, whatever stands behind them: the place
// is where they begin.
func TestUnsqueezeWrongPixels(t *testing.T) {
	var d dice
	for _, f := range []impl.Frame{frameOf(1, 1, 0), frameOf(1, 1, countMost), handFrame(), frameOf(4, 1, 0, countMost, 0, 9000), d.steppedFrame(3, 2), d.steppedFrame(1, 9), d.steppedFrame(8, 2)} {
		whole, ends := squeezeByRule(f), endsByRule(f)
		for number := range f.Pix {
			ahead := int64(0)
			if number > 0 {
				ahead = f.Pix[number-1]
			}
			for _, wrong := range wrongSteps(ahead) {
				head, rest := whole[:ends[number]], whole[ends[number+1]:]
				checkTold(t, slices.Concat(head, wrong, rest), ends[number])
				checkTold(t, slices.Concat(head, wrong), ends[number])
				checkTold(t, slices.Concat(head, wrong, make([]byte, 50)), ends[number])
			}
		}
	}
}

// Counts up to the limits, and one past them, from every kind of count ahead.
func TestUnsqueezePixelLimits(t *testing.T) {
	for _, ahead := range []int64{0, 1, 63, 64, 8191, 8192, 30000, countMost - 64, countMost - 1, countMost} {
		head := slices.Concat([]byte{2, 1}, stepByRule(ahead))
		for count := int64(-2); count < 3; count++ {
			b := slices.Concat(head, stepByRule(count-ahead))
			if got, at := impl.Unsqueeze(b); count >= 0 && (at != -1 || !sameFrame(got, frameOf(2, 1, ahead, count))) {
				t.Error(b, got, at)
			} else if count < 0 {
				checkTold(t, b, len(head))
			}
			high := countMost - count
			b = slices.Concat(head, stepByRule(high-ahead))
			if got, at := impl.Unsqueeze(b); count >= 0 && (at != -1 || !sameFrame(got, frameOf(2, 1, ahead, high))) {
				t.Error(b, got, at)
			} else if count < 0 {
				checkTold(t, b, len(head))
			}
		}
	}
}

// Whatever stands behind a whole frame: the place of the first of it.
func TestUnsqueezeMoreBytes(t *testing.T) {
	var d dice
	for _, f := range d.frames() {
		whole := squeezeByRule(f)
		for _, more := range [][]byte{{0}, {1}, {9}, {127}, {128}, {255}, {0, 0}, {128, 0}, {128, 1}, {1, 1, 0}, make([]byte, 100), bytes.Repeat([]byte{255}, 100)} {
			checkTold(t, slices.Concat(whole, more), len(whole))
		}
		checkTold(t, slices.Concat(whole, whole), len(whole))
	}
	checkTold(t, append([]byte{1, 1, 0}, make([]byte, 1<<20)...), 3)
	checkTold(t, append([]byte{1, 1}, bytes.Repeat([]byte{128}, 1<<20)...), 2)
}

// All bytes of one pixel: each of two, and of three those whose last ones tell
// most.
func TestUnsqueezeAllOfOnePixel(t *testing.T) {
	right := 0
	for first := range 256 {
		if checkUnsqueeze(t, []byte{1, 1, byte(first)}) == -1 {
			right++
		}
		for second := range 256 {
			if checkUnsqueeze(t, []byte{1, 1, byte(first), byte(second)}) == -1 {
				right++
			}
			for _, third := range []byte{0, 1, 6, 7, 8, 127, 128, 255} {
				if checkUnsqueeze(t, []byte{1, 1, byte(first), byte(second), third}) == -1 {
					right++
				}
			}
		}
	}
	// the steps from 0 on: of one byte, of two, and of three with a last byte of 1, 6 and 7
	if want := 64 + 127*64 + 3*128*64; right != want {
		t.Error(right, want)
	}
}

// What is read is written again as the same bytes, so no frame has two texts.
func TestUnsqueezeOfAnyBytes(t *testing.T) {
	var d dice
	right, wrong := 0, 0
	for range 40000 {
		b := []byte{byte(d.between(1, 3)), byte(d.between(1, 2))}
		for range d.between(0, 8) {
			b = append(b, byte([]int64{d.between(0, 255), d.between(0, 9), 2 * d.between(0, 63), 128}[d.between(0, 3)]))
		}
		if d.between(0, 15) == 0 {
			b[d.between(0, 1)] = byte(d.between(0, 255))
		}
		if checkUnsqueeze(t, b) != -1 {
			wrong++
			continue
		}
		right++
		f, _ := impl.Unsqueeze(b)
		if !impl.FrameOk(f) || !bytes.Equal(impl.Squeeze(f), b) {
			t.Error(b, f)
		}
	}
	if min(right, wrong) < 500 {
		t.Error("too few of a kind:", right, wrong)
	}
}

func TestFrameArgumentsStay(t *testing.T) {
	var d dice
	for _, f := range append(d.frames(), wrongFrames()...) {
		pixels := len(f.Pix)
		room := impl.Frame{W: f.W, H: f.H, Pix: append(slices.Clone(f.Pix), 77, -5, countMost+1)}
		wantRoom := cloneFrame(room)
		f = impl.Frame{W: f.W, H: f.H, Pix: room.Pix[:pixels]}
		list := []impl.Frame{f, f, {W: 9, H: 9, Pix: []int64{9}}}
		dead := []int64{0, int64(pixels) - 1, 0, -7, 1 << 40}
		wantDead := slices.Clone(dead)
		sum, _ := impl.AddFrames(list[:2])
		one, _ := impl.AddFrames(list[:1])
		masked, _ := impl.Masked(f, dead[:3])
		bare, _ := impl.Masked(f, dead[:0])
		b := impl.Squeeze(f)
		impl.FrameOk(f)
		impl.Spots(f, 1)
		impl.Integrate(f, 0, 0, 1)
		spoilNumbers(sum.Pix, one.Pix, masked.Pix, bare.Pix)
		for i := range b[:cap(b)] {
			b[:cap(b)][i] = 99
		}
		if !sameFrame(room, wantRoom) || !slices.Equal(dead, wantDead) {
			t.Error(f, dead)
		}
		if !sameFrame(list[0], f) || !sameFrame(list[1], f) || !sameFrame(list[2], frameOf(9, 9, 9)) {
			t.Error(list)
		}
	}
}

func TestUnsqueezedBytesStay(t *testing.T) {
	var d dice
	for _, f := range d.frames() {
		whole := squeezeByRule(f)
		for _, length := range []int{len(whole), len(whole) - 1, 2, 1, 0} {
			room := slices.Concat(whole, []byte{1, 128, 0})
			want := slices.Clone(room)
			got, _ := impl.Unsqueeze(room[:length])
			spoilNumbers(got.Pix)
			if !bytes.Equal(room, want) {
				t.Error(f, length)
			}
		}
	}
}

// What lies behind a list's length is not of it.
func TestFramesLeaveOutWhatLiesBehind(t *testing.T) {
	pix := []int64{4, 9, -1, math.MaxInt64}
	f := frameOf(2, 1, pix[:2]...)
	if got := impl.Spots(f, 1); !slices.Equal(got, []impl.Spot{{X: 1, Peak: 9}}) {
		t.Error(got)
	}
	if sum, count, around := impl.Integrate(f, 0, 0, 0); sum != 4 || count != 1 || around != 9 {
		t.Error(sum, count, around)
	}
	if impl.FrameOk(frameOf(3, 1, pix[:2]...)) || impl.FrameOk(frameOf(1, 1, make([]int64, 0, 1)...)) || !impl.FrameOk(f) {
		t.Error("room is no pixel")
	}
	list := []impl.Frame{f, f, {}, frameOf(2, 1, 1, 1)}
	if got, lost := impl.AddFrames(list[:2]); !sameFrame(got, frameOf(2, 1, 8, 18)) || lost != 0 {
		t.Error(got, lost)
	}
	if got, lost := impl.AddFrames(list[:0]); !isZeroFrame(got) || lost != 0 {
		t.Error(got, lost)
	}
	if got, ok := impl.Masked(f, []int64{1, 0, -1}[:1]); !ok || !sameFrame(got, frameOf(2, 1, 4, 0)) {
		t.Error(got, ok)
	}
	b := []byte{2, 1, 8, 10, 0, 9}
	if got, at := impl.Unsqueeze(b[:4]); at != -1 || !sameFrame(got, f) {
		t.Error(got, at)
	}
	checkTold(t, b[:3], 3)
	checkTold(t, b[:2], 2)
	checkTold(t, b[:1], 0)
}

func TestFrameAnswersAreNewMemory(t *testing.T) {
	var d dice
	for _, f := range []impl.Frame{frameOf(1, 1, 5), handFrame(), d.frameOf(9, 7, countMost)} {
		b := squeezeByRule(f)
		checkNewList(t, "AddFrames of one", func() []int64 { got, _ := impl.AddFrames([]impl.Frame{f}); return got.Pix })
		checkNewList(t, "AddFrames", func() []int64 { got, _ := impl.AddFrames([]impl.Frame{f, f}); return got.Pix })
		checkNewList(t, "Masked by none", func() []int64 { got, _ := impl.Masked(f, nil); return got.Pix })
		checkNewList(t, "Masked", func() []int64 { got, _ := impl.Masked(f, []int64{0}); return got.Pix })
		checkNewList(t, "Spots", func() []impl.Spot { return impl.Spots(f, 1) })
		checkNewList(t, "Squeeze", func() []byte { return impl.Squeeze(f) })
		checkNewList(t, "Unsqueeze", func() []int64 { got, _ := impl.Unsqueeze(b); return got.Pix })
		sum, _ := impl.AddFrames([]impl.Frame{f})
		masked, _ := impl.Masked(f, nil)
		read, _ := impl.Unsqueeze(b)
		if !shareNothing([][]int64{f.Pix, sum.Pix, masked.Pix, read.Pix}) {
			t.Error("two lists share memory")
		}
	}
}

// Frames that are one in memory, and a mask that lies in its frame's pixels.
func TestFramesOfOneMemory(t *testing.T) {
	list := []int64{0, 3, 2, 1}
	f := impl.Frame{W: 2, H: 2, Pix: list}
	if got, lost := impl.AddFrames([]impl.Frame{f, f, f}); lost != 0 || !sameFrame(got, frameOf(2, 2, 0, 9, 6, 3)) {
		t.Error(got, lost)
	}
	if got, ok := impl.Masked(f, list[1:3]); !ok || !sameFrame(got, frameOf(2, 2, 0, 3, 0, 0)) {
		t.Error(got, ok)
	}
	if !slices.Equal(list, []int64{0, 3, 2, 1}) {
		t.Error(list)
	}
}

// Every call answers the same, one behind the other and all at once.
func TestFramesAnswerTheSame(t *testing.T) {
	shared := new(dice).frameOf(20, 20, 50)
	spots, whole := spotsByRule(shared, 3), squeezeByRule(shared)
	var all sync.WaitGroup
	for start := range 8 {
		all.Go(func() {
			d := dice(start)
			f := d.frameOf(20, 20, countMost)
			sum, lost := addByRule([]impl.Frame{f, shared})
			masked, _ := maskedByRule(f, []int64{7, 300})
			inner, count, around := integrateByRule(f, 4, 19, 3)
			for range 20 {
				if got, n := impl.AddFrames([]impl.Frame{f, shared}); n != lost || !sameFrame(got, sum) {
					t.Error(start, got, n)
				}
				if got, ok := impl.Masked(f, []int64{7, 300}); !ok || !sameFrame(got, masked) {
					t.Error(start, got)
				}
				if a, b, c := impl.Integrate(f, 4, 19, 3); a != inner || b != count || c != around {
					t.Error(start, a, b, c)
				}
				if !slices.Equal(impl.Spots(shared, 3), spots) || !bytes.Equal(impl.Squeeze(shared), whole) {
					t.Error(start)
				}
				if got, at := impl.Unsqueeze(whole); at != -1 || !sameFrame(got, shared) {
					t.Error(start, got, at)
				}
			}
		})
	}
	all.Wait()
}

// wildFrame: likely a frame, or one of its numbers is any, or it has too few or
// too many pixels.
func (d *dice) wildFrame() impl.Frame {
	w, h := d.between(1, 6), d.between(1, 6)
	most := []int64{2, 500, countMost}[d.between(0, 2)]
	f := d.frameOf(w, h, most)
	switch d.between(0, 9) {
	case 0:
		f.W = d.wildNumber()
	case 1:
		f.H = d.wildNumber()
	case 2, 3:
		f.Pix = d.wildList(len(f.Pix), 0, most)
	}
	return f
}

// wildUpTo: a number from -1 to one past most, or any.
func (d *dice) wildUpTo(most int64) int64 {
	if d.between(0, 5) == 0 {
		return d.wildNumber()
	}
	return d.between(-1, most+1)
}

func TestFramesAnswerAtEveryArgument(t *testing.T) {
	var d dice
	right, wrong := 0, 0
	for range 5000 {
		f := d.wildFrame()
		ok := isFrameByRule(f)
		if impl.FrameOk(f) != ok {
			t.Fatal(f)
		}
		other := d.wildFrame()
		if d.between(0, 2) > 0 {
			other = cloneFrame(f)
		}
		checkAdd(t, []impl.Frame{f, other})
		checkAdd(t, []impl.Frame{other, f, f})
		checkMasked(t, f, d.wildList(int(d.between(0, 5)), 0, max(int64(len(f.Pix)-1), 0)))
		checkIntegrate(t, f, d.wildUpTo(5), d.wildUpTo(5), d.wildUpTo(reachMost))
		level := []int64{1, d.wildUpTo(3), d.wildNumber()}[d.between(0, 2)]
		if got := impl.Spots(f, level); !slices.Equal(got, spotsByRule(f, level)) {
			t.Fatal(f, level, got)
		}
		b := impl.Squeeze(f)
		if !bytes.Equal(b, squeezeByRule(f)) {
			t.Fatal(f, b)
		}
		if ok {
			right++
			checkSqueezed(t, f)
			b[d.between(0, int64(len(b)-1))] = byte(d.bits())
			checkUnsqueeze(t, b)
		} else {
			wrong++
		}
	}
	if min(right, wrong) < 500 {
		t.Error("too few of a kind:", right, wrong)
	}
}
