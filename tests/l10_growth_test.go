package tests

import (
	"math"
	"runtime"
	"slices"
	"sync"
	"testing"
	"time"

	"loop.example/g00055/impl"
)

func TestGrowthLimits(t *testing.T) {
	got := []int64{impl.MaxSites, impl.MaxHeight, impl.MaxList, impl.MaxNet, impl.MaxSlip}
	if !slices.Equal(got, []int64{sitesMost, heightMost, coinsMost, netMost, slipMost}) {
		t.Error(got)
	}
}

func TestDepositByHand(t *testing.T) {
	for _, c := range []struct{ heights, coins, want []int64 }{
		// one site: its neighbours are itself
		{[]int64{0}, nil, []int64{0}}, {[]int64{0}, []int64{0}, []int64{1}}, {[]int64{5}, []int64{0, 1, 2, 7}, []int64{9}},
		// two sites: both neighbours are one
		{[]int64{0, 0}, []int64{0}, []int64{1, 0}}, {[]int64{2, 2}, []int64{1}, []int64{2, 3}}, {[]int64{1, 0}, []int64{0}, []int64{1, 1}},
		{[]int64{0, 1}, []int64{1}, []int64{1, 1}}, {[]int64{3, 0}, []int64{0, 1, 0}, []int64{3, 3}}, {[]int64{3, 0}, []int64{0, 1, 0, 0}, []int64{4, 3}},
		// stays where it comes down
		{[]int64{0, 0, 0}, []int64{1}, []int64{0, 1, 0}}, {[]int64{2, 0, 2}, []int64{1, 1}, []int64{2, 2, 2}}, {[]int64{4, 4, 4, 4}, []int64{3}, []int64{4, 4, 4, 5}},
		{[]int64{3, 2, 2, 1, 3}, []int64{1}, []int64{3, 3, 2, 1, 3}},
		// to the one ahead, to the one behind
		{[]int64{0, 5, 4, 6}, []int64{1}, []int64{1, 5, 4, 6}}, {[]int64{4, 5, 0, 6}, []int64{1}, []int64{4, 5, 1, 6}},
		{[]int64{0, 5, 5, 5}, []int64{1}, []int64{1, 5, 5, 5}}, {[]int64{5, 5, 0, 5}, []int64{1}, []int64{5, 5, 1, 5}},
		{[]int64{1, 0, 2}, []int64{2}, []int64{1, 1, 2}}, {[]int64{0, 1, 2}, []int64{2}, []int64{1, 1, 2}},
		// of two as low to the one ahead: of the first that is the last
		{[]int64{0, 1, 0}, []int64{1}, []int64{1, 1, 0}}, {[]int64{1, 0, 0}, []int64{0}, []int64{1, 0, 1}}, {[]int64{0, 0, 1}, []int64{2}, []int64{0, 1, 1}},
		{[]int64{9, 3, 5, 3, 9}, []int64{2}, []int64{9, 4, 5, 3, 9}}, {[]int64{5, 3, 9, 3}, []int64{0}, []int64{5, 3, 9, 4}},
		// several sites far, over the ring's ends too
		{[]int64{9, 5, 4, 3, 2, 1, 9, 9}, []int64{1}, []int64{9, 5, 4, 3, 2, 2, 9, 9}}, {[]int64{9, 1, 2, 3, 4, 5, 9}, []int64{5}, []int64{9, 2, 2, 3, 4, 5, 9}},
		{[]int64{5, 4, 3, 2, 1, 0}, []int64{0}, []int64{5, 4, 3, 2, 1, 1}}, {[]int64{5, 4, 3, 2, 1, 0}, []int64{1}, []int64{5, 4, 3, 2, 1, 1}},
		{[]int64{2, 1, 9, 4, 3}, []int64{3}, []int64{2, 2, 9, 4, 3}}, {[]int64{3, 4, 9, 1, 2}, []int64{1}, []int64{3, 4, 9, 2, 2}},
		{[]int64{1, 3, 2, 0}, []int64{1}, []int64{1, 3, 2, 1}}, {[]int64{3, 2, 2, 1, 3}, []int64{0}, []int64{3, 3, 2, 1, 3}},
		// one behind the other
		{[]int64{4, 0, 0}, []int64{0}, []int64{4, 0, 1}}, {[]int64{4, 0, 0}, []int64{0, 0}, []int64{4, 1, 1}}, {[]int64{4, 0, 0}, []int64{0, 0, 0, 0}, []int64{4, 2, 2}},
		{[]int64{2, 2, 0, 2, 2}, []int64{1, 3, 0}, []int64{3, 2, 2, 2, 2}}, {[]int64{0, 0, 0, 0, 0}, []int64{2, 2, 2, 2}, []int64{0, 1, 2, 1, 0}},
		// coin modulo n
		{[]int64{0, 0, 0, 0}, []int64{5}, []int64{0, 1, 0, 0}}, {[]int64{0, 0, 0, 0}, []int64{4, 3}, []int64{1, 0, 0, 1}},
		{[]int64{0, 0, 0, 0}, []int64{math.MaxInt64}, []int64{0, 0, 0, 1}}, {[]int64{0, 0, 0}, []int64{math.MaxInt64}, []int64{0, 1, 0}},
	} {
		if got, ok := impl.Deposit(c.heights, c.coins); !ok || !slices.Equal(got, c.want) {
			t.Error(c, got, ok)
		}
	}
}

func checkDeposit(t *testing.T, heights, coins []int64) {
	t.Helper()
	want, right := depositByRule(heights, coins)
	if got, ok := impl.Deposit(heights, coins); ok != right || !slices.Equal(got, want) {
		t.Error(len(heights), len(coins), got, want, ok)
	}
}

func checkEtch(t *testing.T, heights, coins []int64) {
	t.Helper()
	want, count := etchByRule(heights, coins)
	if got, taken := impl.Etch(heights, coins); taken != count || !slices.Equal(got, want) {
		t.Error(len(heights), len(coins), got, want, taken)
	}
}

func checkSteps(t *testing.T, heights []int64) {
	t.Helper()
	rises, sum := stepsByRule(heights)
	if r, s := impl.Steps(heights); r != rises || s != sum {
		t.Error(heights, r, s)
	}
}

// Every small surface, at every site.
func TestSmallSurfacesByRule(t *testing.T) {
	for n := 1; n < 6; n++ {
		for _, heights := range smallSurfaces(n, 3) {
			checkSteps(t, heights)
			for coin := range int64(n) {
				checkDeposit(t, heights, []int64{coin})
				checkEtch(t, heights, []int64{coin})
			}
		}
	}
}

func TestSurfacesByRule(t *testing.T) {
	var d dice
	for _, n := range []int{1, 2, 3, 4, 7, 12, 40, sitesMost - 1, sitesMost} {
		for _, heights := range d.surfaces(n) {
			checkSteps(t, heights)
			for _, count := range []int{0, 1, 2, n, 5 * n} {
				coins := d.coins(count)
				checkDeposit(t, heights, coins)
				checkEtch(t, heights, coins)
			}
		}
	}
}

// P14: Deposit adds as many pieces as coins.
func TestDepositAddsAsManyPiecesAsCoins(t *testing.T) {
	var d dice
	for _, n := range []int{1, 2, 3, 5, 30, sitesMost} {
		for _, heights := range d.surfaces(n) {
			for _, count := range []int{0, 1, 3, 50, 700, coinsMost} {
				got, ok := impl.Deposit(heights, d.coins(count))
				if !ok || len(got) != n || sumOfHeights(got) != sumOfHeights(heights)+int64(count) {
					t.Error(n, count, len(got), ok)
				}
			}
		}
	}
}

// A piece comes to rest on one site alone, where no neighbour is lower.
func TestDepositRestsWhereNoneIsLower(t *testing.T) {
	var d dice
	moved := 0
	for _, n := range []int{1, 2, 3, 6, 25} {
		for _, heights := range d.surfaces(n) {
			for coin := range int64(n) {
				got, ok := impl.Deposit(heights, []int64{coin})
				if !ok || len(got) != n {
					t.Fatal(heights, coin, got)
				}
				grown := []int64{}
				for site := range int64(n) {
					if got[site] != heights[site] {
						grown = append(grown, site)
					}
				}
				if len(grown) != 1 || got[grown[0]] != heights[grown[0]]+1 {
					t.Fatal(heights, coin, got)
				}
				rest := heights[grown[0]]
				if rest > *ringAt(heights, grown[0]-1) || rest > *ringAt(heights, grown[0]+1) || rest > heights[coin] {
					t.Fatal(heights, coin, got)
				}
				if grown[0] != coin {
					moved++
				}
			}
		}
	}
	if moved < 100 {
		t.Error("too few went down:", moved)
	}
}

// Coins in two lists, one behind the other, do what they do in one.
func TestCoinsInTwoLists(t *testing.T) {
	var d dice
	for range 200 {
		n := int(d.between(1, 12))
		heights, coins := d.heights(n, 6), d.coins(int(d.between(0, 30)))
		cut := d.between(0, int64(len(coins)))
		first, ok1 := impl.Deposit(heights, coins[:cut])
		second, ok2 := impl.Deposit(first, coins[cut:])
		if whole, ok := impl.Deposit(heights, coins); !ok || !ok1 || !ok2 || !slices.Equal(whole, second) {
			t.Error(heights, coins, cut, whole, second)
		}
		first, taken1 := impl.Etch(heights, coins[:cut])
		second, taken2 := impl.Etch(first, coins[cut:])
		if whole, taken := impl.Etch(heights, coins); taken != taken1+taken2 || !slices.Equal(whole, second) {
			t.Error(heights, coins, cut, whole, second)
		}
	}
}

// A ring has no beginning: turned, it grows, is taken and is counted likewise.
func TestSurfacesAreRings(t *testing.T) {
	var d dice
	for range 60 {
		n := d.between(1, 9)
		heights, coins := d.heights(int(n), 5), d.heights(int(d.between(0, 20)), n-1)
		for by := range n {
			turned, coinsTurned := turnedRing(heights, by), []int64{}
			for _, coin := range coins {
				coinsTurned = append(coinsTurned, coin+by)
			}
			want, _ := impl.Deposit(heights, coins)
			if got, ok := impl.Deposit(turned, coinsTurned); !ok || !slices.Equal(got, turnedRing(want, by)) {
				t.Error(heights, coins, by, got)
			}
			want, count := impl.Etch(heights, coins)
			if got, taken := impl.Etch(turned, coinsTurned); taken != count || !slices.Equal(got, turnedRing(want, by)) {
				t.Error(heights, coins, by, got)
			}
			rises, sum := impl.Steps(heights)
			if r, s := impl.Steps(turned); r != rises || s != sum {
				t.Error(heights, by, r, s)
			}
		}
	}
}

func TestEtchByHand(t *testing.T) {
	for _, c := range []struct {
		heights, coins, want []int64
		taken                int64
	}{
		{[]int64{0}, []int64{0}, []int64{0}, 0}, {[]int64{5}, []int64{0, 0, 1}, []int64{5}, 0}, {[]int64{heightMost}, nil, []int64{heightMost}, 0},
		{[]int64{1, 0}, []int64{0}, []int64{0, 0}, 1}, {[]int64{2, 0}, []int64{0, 0, 0}, []int64{0, 0}, 2}, {[]int64{0, 2}, []int64{0, 1}, []int64{0, 1}, 1},
		{[]int64{2, 2}, []int64{0, 1}, []int64{2, 2}, 0}, {[]int64{3, 2}, []int64{1, 0, 0, 1}, []int64{2, 2}, 1},
		{[]int64{0, 0, 0}, []int64{0, 1, 2}, []int64{0, 0, 0}, 0}, {[]int64{0, 1, 0}, []int64{1, 1}, []int64{0, 0, 0}, 1},
		{[]int64{1, 0, 0}, []int64{0}, []int64{0, 0, 0}, 1}, {[]int64{0, 0, 1}, []int64{2}, []int64{0, 0, 0}, 1},
		{[]int64{2, 1, 0}, []int64{0}, []int64{1, 1, 0}, 1}, {[]int64{2, 1, 0}, []int64{1}, []int64{2, 1, 0}, 0}, {[]int64{2, 1, 0}, []int64{2}, []int64{2, 1, 0}, 0},
		{[]int64{1, 1, 0}, []int64{0, 1}, []int64{1, 1, 0}, 0}, {[]int64{0, 1, 1}, []int64{1, 2}, []int64{0, 1, 1}, 0}, {[]int64{1, 0, 1}, []int64{0, 2}, []int64{1, 0, 1}, 0},
		{[]int64{0, 1, 2, 3}, []int64{3, 2, 1, 0, 3}, []int64{0, 1, 2, 2}, 1}, {[]int64{3, 2, 1, 0}, []int64{0, 1, 0, 2}, []int64{2, 2, 1, 0}, 1},
		{[]int64{5, 5, 9, 5}, []int64{2, 2, 2, 2, 2, 6}, []int64{5, 5, 5, 5}, 4}, {[]int64{5, 5, 0, 5}, []int64{0, 1, 2, 3}, []int64{5, 5, 0, 5}, 0},
		{[]int64{3, 1, 2, 1}, []int64{4, 8, 0}, []int64{1, 1, 2, 1}, 2}, {[]int64{0, 0, 0, 4}, []int64{math.MaxInt64}, []int64{0, 0, 0, 3}, 1},
		{[]int64{0, heightMost, 0}, []int64{math.MaxInt64, 1}, []int64{0, heightMost - 2, 0}, 2},
	} {
		if got, taken := impl.Etch(c.heights, c.coins); taken != c.taken || !slices.Equal(got, c.want) {
			t.Error(c, got, taken)
		}
	}
}

// P14: what Etch takes is missing from the sum.
func TestWhatEtchTakesIsMissing(t *testing.T) {
	var d dice
	for _, n := range []int{1, 2, 3, 5, 30, sitesMost} {
		all := int64(0)
		for _, heights := range d.surfaces(n) {
			for _, count := range []int{0, 1, 3, 50, 700, coinsMost} {
				got, taken := impl.Etch(heights, d.coins(count))
				if len(got) != n || taken < 0 || taken > int64(count) || sumOfHeights(got) != sumOfHeights(heights)-taken {
					t.Error(n, count, len(got), taken)
				}
				if !allFrom(got, 0, heightMost) {
					t.Error(got)
				}
				all += taken
			}
		}
		if n > 1 && all < 100 {
			t.Error("too few were taken:", n, all)
		}
	}
}

func TestStepsByHand(t *testing.T) {
	for _, c := range []struct {
		heights    []int64
		rises, sum int64
	}{
		{[]int64{0}, 0, 0}, {[]int64{7}, 0, 0}, {[]int64{heightMost}, 0, 0},
		{[]int64{0, 0}, 0, 0}, {[]int64{0, 5}, 1, 10}, {[]int64{5, 0}, 1, 10}, {[]int64{0, heightMost}, 1, 2 * heightMost},
		{[]int64{1, 2, 3}, 2, 4}, {[]int64{3, 2, 1}, 1, 4}, {[]int64{3, 0, 2, 2}, 2, 6}, {[]int64{4, 4, 4, 4}, 0, 0},
		{[]int64{0, 1, 0, 1}, 2, 4}, {[]int64{0, 1, 1, 0, 0}, 1, 2}, {[]int64{0, 0, 9, 0, 0}, 1, 18}, {[]int64{9, 9, 0, 9, 9}, 1, 18},
		{filled(sitesMost, heightMost), 0, 0}, {slices.Repeat([]int64{0, heightMost}, sitesMost/2), sitesMost / 2, sitesMost * heightMost},
	} {
		if rises, sum := impl.Steps(c.heights); rises != c.rises || sum != c.sum {
			t.Error(c, rises, sum)
		}
	}
}

func TestWrongSurfaces(t *testing.T) {
	for _, heights := range wrongSurfaces() {
		for _, coins := range [][]int64{nil, {0}, {0, 1, 2}, {-1}, filled(coinsMost+1, 0)} {
			if got, ok := impl.Deposit(heights, coins); ok || len(got) != 0 {
				t.Error(heights, coins, got)
			}
			if got, taken := impl.Etch(heights, coins); taken != 0 || len(got) != 0 {
				t.Error(heights, coins, got, taken)
			}
		}
		if rises, sum := impl.Steps(heights); rises != 0 || sum != 0 {
			t.Error(heights, rises, sum)
		}
	}
}

// Each surface is one from which pieces could be taken, at site 1 too.
func TestWrongCoins(t *testing.T) {
	for _, coins := range wrongCoins() {
		for _, heights := range [][]int64{{0}, {4, 5000}, {0, 5000, 3}, slices.Repeat([]int64{0, 9}, sitesMost/2)} {
			if got, ok := impl.Deposit(heights, coins); ok || len(got) != 0 {
				t.Error(len(coins), heights, got)
			}
			if got, taken := impl.Etch(heights, coins); taken != 0 || len(got) != 0 {
				t.Error(len(coins), heights, got, taken)
			}
		}
	}
}

func TestSurfaceLimitsAreMet(t *testing.T) {
	for _, n := range []int{1, 2, sitesMost - 1, sitesMost} {
		for _, count := range []int{0, 1, coinsMost - 1, coinsMost} {
			for _, coin := range []int64{0, int64(n) - 1, int64(n), math.MaxInt64} {
				for _, height := range []int64{0, 1, heightMost - coinsMost} {
					coins := filled(count, coin)
					checkDeposit(t, filled(n, height), coins)
					checkEtch(t, filled(n, height), coins)
					if got, ok := impl.Deposit(filled(n, height), coins); !ok || sumOfHeights(got) != int64(n)*height+int64(count) {
						t.Error(n, count, coin, height, ok)
					}
				}
				tower := filled(n, heightMost-coinsMost)
				tower[coin%int64(n)] = heightMost
				if got, taken := impl.Etch(tower, filled(count, coin)); n > 1 && taken != int64(count) || len(got) != n {
					t.Error(n, count, coin, taken)
				}
			}
		}
		checkSteps(t, filled(n, heightMost))
	}
}

// A height that grows just to MaxHeight is one, a piece more is refused, but
// not one that goes down from there.
func TestDepositUpToMaxHeight(t *testing.T) {
	const most = heightMost
	for _, c := range []struct{ heights, coins, want []int64 }{
		{[]int64{most - 1}, []int64{0}, []int64{most}}, {[]int64{most - 1}, []int64{0, 0}, nil}, {[]int64{most}, []int64{0}, nil}, {[]int64{most}, nil, []int64{most}},
		{[]int64{most, 0}, []int64{0}, []int64{most, 1}}, {[]int64{0, most}, []int64{1}, []int64{1, most}}, {[]int64{most, most}, []int64{1}, nil}, {[]int64{most, most}, nil, []int64{most, most}},
		{[]int64{most, most - 1}, []int64{0}, []int64{most, most}}, {[]int64{most, most - 1}, []int64{0, 0}, nil}, {[]int64{most, most - 1}, []int64{0, 1}, nil},
		{[]int64{most - 1, most, most - 1}, []int64{1, 1}, []int64{most, most, most}}, {[]int64{most - 1, most, most - 1}, []int64{1, 1, 1}, nil}, {[]int64{most, 0, most}, []int64{0, 2, 1}, []int64{most, 3, most}},
		{[]int64{most - 2}, []int64{0, 0}, []int64{most}}, {[]int64{most - 2}, []int64{0, 0, 0}, nil},
	} {
		if got, ok := impl.Deposit(c.heights, c.coins); ok != (c.want != nil) || !slices.Equal(got, c.want) {
			t.Error(c, got, ok)
		}
	}
	for _, n := range []int{1, 2, 3, sitesMost} {
		for _, left := range []int{0, 1, n, 3 * n} {
			heights := filled(n, most)
			for i := range left {
				heights[i%n]--
			}
			for count := max(left-2, 0); count < left+3; count++ {
				coins := []int64{}
				for i := range count {
					coins = append(coins, int64(i))
				}
				got, ok := impl.Deposit(heights, coins)
				if ok != (count <= left) || ok && sumOfHeights(got) != int64(n*most-left+count) || !ok && len(got) != 0 {
					t.Error(n, left, count, ok)
				}
				checkDeposit(t, heights, coins)
			}
		}
	}
}

// What is refused half way is refused whole, also where there is room again for
// the coins behind.
func TestDepositRefusedHalfWay(t *testing.T) {
	full := []int64{heightMost, heightMost, heightMost, heightMost, 0}
	for _, before := range []int{0, 1, 100, coinsMost - 1} {
		coins := filled(coinsMost, 4)
		if got, ok := impl.Deposit(full, coins); !ok || got[4] != coinsMost {
			t.Error(before, got)
		}
		coins[before] = 1
		if got, ok := impl.Deposit(full, coins); ok || len(got) != 0 {
			t.Error(before, got)
		}
		if got, ok := impl.Deposit([]int64{int64(heightMost - before)}, coins); ok || len(got) != 0 {
			t.Error(before, got)
		}
	}
}

// All goroutines have ended when a call answers, but for what it takes them to
// leave.
func TestNoGoroutineStays(t *testing.T) {
	var d dice
	begin := runtime.NumGoroutine()
	for range 300 {
		impl.Deposit(d.heights(20, 9), d.coins(50))
		impl.Deposit(filled(3, heightMost-5), d.coins(50))
		impl.Deposit([]int64{heightMost}, d.coins(50))
		impl.Deposit([]int64{1}, []int64{1, 2, -1})
		impl.Deposit(nil, d.coins(50))
		impl.Etch(d.heights(20, 9), d.coins(50))
		impl.Etch([]int64{-1}, d.coins(50))
		impl.Etch([]int64{1, 2}, []int64{1, -2})
	}
	for range 500 {
		if runtime.NumGoroutine() <= begin {
			return
		}
		time.Sleep(10 * time.Millisecond)
	}
	t.Error(begin, runtime.NumGoroutine())
}

func TestNetOk(t *testing.T) {
	var d dice
	for _, w := range []int64{1, 2, 3, netMost - 1, netMost} {
		for _, h := range []int64{1, 2, 3, netMost - 1, netMost} {
			for _, n := range d.nets(w, h) {
				if !impl.NetOk(n) {
					t.Error(w, h)
				}
			}
			for _, slip := range []int64{slipMost, -slipMost} {
				if n := netOf(w, h, func(step) int64 { return slip }); !impl.NetOk(n) {
					t.Error(w, h, slip)
				}
			}
		}
	}
	if !impl.NetOk(impl.Net{W: 1, H: 1}) || !impl.NetOk(impl.Net{W: 1, H: 1, Right: []int64{}, Up: []int64{}}) {
		t.Error("one site alone")
	}
	if !impl.NetOk(impl.Net{W: 3, H: 1, Right: []int64{1, 2}}) || !impl.NetOk(impl.Net{W: 1, H: 3, Up: []int64{1, 2}}) || impl.NetOk(impl.Net{W: 3, H: 1, Up: []int64{1, 2}}) || impl.NetOk(impl.Net{W: 1, H: 3, Right: []int64{1, 2}}) {
		t.Error("a row of sites")
	}
	for _, n := range wrongNets() {
		if impl.NetOk(n) {
			t.Error(n)
		}
	}
}

func TestWrongNets(t *testing.T) {
	for _, n := range wrongNets() {
		if b, ok := impl.Burgers(n, 0, 0); ok || b != 0 {
			t.Error(n, b)
		}
		if b, ok := impl.Around(n, 0, 0, 1, 1); ok || b != 0 {
			t.Error(n, b)
		}
		if m, ok := impl.Slip(n, 0, 0, 1); ok || !isZeroNet(m) {
			t.Error(n, m)
		}
		if m, ok := impl.Slip(n, 0, 0, 0); ok || !isZeroNet(m) {
			t.Error(n, m)
		}
		fields := [][]int64{nil, {0}}
		if count := n.W * n.H; count > 0 && count < 2000 {
			fields = append(fields, make([]int64, count))
		}
		for _, field := range fields {
			if m, ok := impl.Shifted(n, field); ok || !isZeroNet(m) {
				t.Error(n, m)
			}
		}
		if got := impl.Cores(n); len(got) != 0 {
			t.Error(n, got)
		}
	}
}

// handNet: (0, 0) to (2, 2), its numbers all unlike.
func handNet() impl.Net {
	return impl.Net{W: 3, H: 3, Right: []int64{1, 20, 300, 4000, 50000, 600000}, Up: []int64{7, 80, 900, -1000, -20000, -300000}}
}

func TestBurgersByHand(t *testing.T) {
	for _, c := range []struct{ x, y, want int64 }{
		{0, 0, 1 + 80 - 300 - 7}, {1, 0, 20 + 900 - 4000 - 80}, {0, 1, 300 - 20000 - 50000 + 1000}, {1, 1, 4000 - 300000 - 600000 + 20000},
	} {
		if got, ok := impl.Burgers(handNet(), c.x, c.y); !ok || got != c.want {
			t.Error(c, got, ok)
		}
	}
	for _, c := range []struct {
		n    impl.Net
		want int64
	}{
		{blankNet(2, 2), 0},
		{impl.Net{W: 2, H: 2, Right: []int64{1, 0}, Up: []int64{0, 0}}, 1},
		{impl.Net{W: 2, H: 2, Right: []int64{0, 1}, Up: []int64{0, 0}}, -1},
		{impl.Net{W: 2, H: 2, Right: []int64{0, 0}, Up: []int64{1, 0}}, -1},
		{impl.Net{W: 2, H: 2, Right: []int64{0, 0}, Up: []int64{0, 1}}, 1},
		{impl.Net{W: 2, H: 2, Right: []int64{5, 5}, Up: []int64{-3, -3}}, 0},
		{impl.Net{W: 2, H: 2, Right: []int64{slipMost, -slipMost}, Up: []int64{-slipMost, slipMost}}, 4 * slipMost},
		{impl.Net{W: 2, H: 2, Right: []int64{-slipMost, slipMost}, Up: []int64{slipMost, -slipMost}}, -4 * slipMost},
	} {
		if got, ok := impl.Burgers(c.n, 0, 0); !ok || got != c.want {
			t.Error(c, got, ok)
		}
	}
}

func TestAroundByHand(t *testing.T) {
	for _, c := range []struct{ x0, y0, x1, y1, want int64 }{
		{0, 0, 1, 1, 1 + 80 - 300 - 7}, {0, 0, 2, 1, 1 + 20 + 900 - 300 - 4000 - 7}, {0, 0, 1, 2, 1 + 80 - 20000 - 50000 - 7 + 1000},
		{0, 0, 2, 2, 21 + 900 - 300000 - 650000 - 7 + 1000}, {1, 0, 2, 2, 20 + 900 - 300000 - 600000 - 80 + 20000}, {0, 1, 2, 2, 4300 - 300000 - 650000 + 1000},
	} {
		if got, ok := impl.Around(handNet(), c.x0, c.y0, c.x1, c.y1); !ok || got != c.want {
			t.Error(c, got, ok)
		}
	}
	// the lower and the right side as great, the others as little as can be
	most := netOf(netMost, netMost, func(s step) int64 {
		if s.up && s.x == 0 || !s.up && s.y > 0 {
			return -slipMost
		}
		return slipMost
	})
	if got, ok := impl.Around(most, 0, 0, netMost-1, netMost-1); !ok || got != 4*(netMost-1)*slipMost {
		t.Error(got, ok)
	}
}

// edgePlaces: the places of a side of so many sites, one outside either way,
// and numbers far outside.
func edgePlaces(size int64) []int64 {
	list := []int64{math.MinInt64, math.MinInt64 + 1, -1 << 32, -2, -1, size + 1, size + 2, 1 << 32, 1<<32 + 1, math.MaxInt64 - 1, math.MaxInt64}
	for place := range size + 1 {
		list = append(list, place)
	}
	return list
}

// Every square of small nets, and what lies around them.
func TestBurgersByRule(t *testing.T) {
	var d dice
	for _, n := range append(d.smallNets(4), d.nets(netMost, 2)[7], d.nets(2, netMost)[7]) {
		for _, x := range edgePlaces(n.W) {
			for _, y := range edgePlaces(n.H) {
				want, right := burgersByRule(n, x, y)
				if got, ok := impl.Burgers(n, x, y); ok != right || got != want {
					t.Error(n, x, y, got, ok)
				}
			}
		}
	}
}

func TestNetsWithoutSquares(t *testing.T) {
	var d dice
	for _, size := range []int64{1, 2, 3, netMost} {
		for _, n := range append(d.nets(1, size), d.nets(size, 1)...) {
			for _, x := range []int64{-1, 0, 1, size - 2, size - 1} {
				if b, ok := impl.Burgers(n, x, 0); ok || b != 0 {
					t.Error(n, x, b)
				}
				if b, ok := impl.Burgers(n, 0, x); ok || b != 0 {
					t.Error(n, x, b)
				}
				if b, ok := impl.Around(n, 0, 0, x, x); ok || b != 0 {
					t.Error(n, x, b)
				}
				if m, ok := impl.Slip(n, x, 0, 0); ok || !isZeroNet(m) {
					t.Error(n, x, m)
				}
				if m, ok := impl.Slip(n, 0, x, 0); ok || !isZeroNet(m) {
					t.Error(n, x, m)
				}
			}
			if got := impl.Cores(n); len(got) != 0 {
				t.Error(n, got)
			}
			if m, ok := impl.Shifted(n, filled(int(size), 5)); !ok || !sameNet(m, n) {
				t.Error(n, m)
			}
		}
	}
}

// Every rectangle of small nets, the ones that are none too.
func TestAroundByRule(t *testing.T) {
	var d dice
	for _, size := range [][2]int64{{1, 1}, {1, 4}, {4, 1}, {2, 2}, {2, 4}, {4, 3}, {4, 4}} {
		n := d.net(size[0], size[1], slipMost)
		for x0 := int64(-1); x0 <= n.W; x0++ {
			for y0 := int64(-1); y0 <= n.H; y0++ {
				for x1 := int64(-1); x1 <= n.W; x1++ {
					for y1 := int64(-1); y1 <= n.H; y1++ {
						want, right := aroundByRule(n, x0, y0, x1, y1)
						if got, ok := impl.Around(n, x0, y0, x1, y1); ok != right || got != want {
							t.Error(n, x0, y0, x1, y1, got, ok)
						}
					}
				}
			}
		}
	}
}

// Each of the four numbers may be wrong alone.
func TestAroundRefuses(t *testing.T) {
	n := handNet()
	for place := range 4 {
		for _, number := range edgePlaces(3) {
			at := []int64{0, 0, 2, 2}
			at[place] = number
			want, fits := aroundByRule(n, at[0], at[1], at[2], at[3])
			if got, ok := impl.Around(n, at[0], at[1], at[2], at[3]); ok != fits || got != want {
				t.Error(at, got, ok)
			}
		}
	}
	for _, at := range [][4]int64{{1, 0, 1, 2}, {0, 1, 2, 1}, {2, 0, 1, 2}, {0, 2, 2, 1}, {0, 0, 0, 0}, {2, 2, 0, 0}, {0, 0, 3, 2}, {0, 0, 2, 3}, {-1, 0, 2, 2}, {0, -1, 2, 2}, {math.MinInt64, math.MinInt64, math.MaxInt64, math.MaxInt64}} {
		if got, ok := impl.Around(n, at[0], at[1], at[2], at[3]); ok || got != 0 {
			t.Error(at, got)
		}
	}
}

func sumWithin(t *testing.T, n impl.Net, x0, y0, x1, y1 int64) int64 {
	t.Helper()
	sum := int64(0)
	for x := x0; x < x1; x++ {
		for y := y0; y < y1; y++ {
			b, ok := impl.Burgers(n, x, y)
			if !ok {
				t.Fatal(n, x, y)
			}
			sum += b
		}
	}
	return sum
}

// P14: Around is the sum of Burgers of the squares within, at every rectangle.
func TestAroundIsTheSumOfBurgers(t *testing.T) {
	var d dice
	unlike := 0
	for _, n := range d.smallNets(5) {
		for x0 := range n.W {
			for y0 := range n.H {
				for x1 := x0 + 1; x1 < n.W; x1++ {
					for y1 := y0 + 1; y1 < n.H; y1++ {
						got, ok := impl.Around(n, x0, y0, x1, y1)
						if !ok || got != sumWithin(t, n, x0, y0, x1, y1) {
							t.Fatal(n, x0, y0, x1, y1, got, ok)
						}
						if got != 0 {
							unlike++
						}
					}
				}
			}
		}
	}
	if unlike < 1000 {
		t.Error("too few are not 0:", unlike)
	}
}

func TestAroundInGreatNets(t *testing.T) {
	var d dice
	for _, n := range d.nets(netMost, netMost) {
		for _, at := range [][4]int64{{0, 0, 29, 29}, {0, 0, 1, 29}, {0, 0, 29, 1}, {28, 0, 29, 29}, {0, 28, 29, 29}, {28, 28, 29, 29}, {3, 7, 20, 11}} {
			if got, ok := impl.Around(n, at[0], at[1], at[2], at[3]); !ok || got != sumWithin(t, n, at[0], at[1], at[2], at[3]) {
				t.Error(at, got, ok)
			}
		}
	}
}

func TestSlipByHand(t *testing.T) {
	for _, c := range []struct {
		x, y, by int64
		want     []int64
	}{
		{0, 0, 5, []int64{1, 20, 305, 4000, 50005, 600000}}, {1, 0, -7, []int64{1, 20, 300, 3993, 50000, 599993}},
		{0, 1, 9, []int64{1, 20, 300, 4000, 50009, 600000}}, {1, 1, 400000, []int64{1, 20, 300, 4000, 50000, 1000000}}, {1, 1, 0, handNet().Right},
		{1, 1, -1600000, []int64{1, 20, 300, 4000, 50000, -1000000}},
	} {
		if got, ok := impl.Slip(handNet(), c.x, c.y, c.by); !ok || !sameNet(got, impl.Net{W: 3, H: 3, Right: c.want, Up: handNet().Up}) {
			t.Error(c, got, ok)
		}
	}
}

// checkSlip holds every square's Burgers behind a slip against what it was, and
// tells whether the slip was taken.
func checkSlip(t *testing.T, n impl.Net, square impl.Core, by int64) bool {
	t.Helper()
	want, right := slipByRule(n, square.X, square.Y, by)
	got, ok := impl.Slip(n, square.X, square.Y, by)
	if ok != right || !sameNet(got, want) {
		t.Fatal(n, square, by, got, ok)
	}
	if !ok {
		return false
	}
	for _, other := range squaresByRule(n) {
		if other == square {
			other.B -= by
		}
		if b, ok := impl.Burgers(got, other.X, other.Y); !ok || b != other.B {
			t.Fatal(n, square, by, other, b)
		}
	}
	return true
}

// P14: Slip changes one square's Burgers alone, at every square.
func TestSlipChangesOneBurgersAlone(t *testing.T) {
	var d dice
	done := 0
	for _, n := range d.smallNets(5) {
		for _, square := range squaresByRule(n) {
			for _, by := range []int64{1, -1, square.B, d.between(-50, 50), d.between(-slipMost, slipMost)} {
				if checkSlip(t, n, square, by) {
					done++
				}
			}
		}
	}
	if done < 3000 {
		t.Error("too few slips:", done)
	}
}

func TestSlipInGreatNets(t *testing.T) {
	var d dice
	n := d.net(netMost, netMost, slipMost/2)
	squares := squaresByRule(n)
	for _, place := range []int64{0, 28, 29, 28 * 29, 29*29 - 1, d.between(0, 29*29-1), d.between(0, 29*29-1)} {
		if !checkSlip(t, n, squares[place], d.between(-slipMost/2, slipMost/2)) {
			t.Error(squares[place])
		}
	}
}

// A slip by a square's Burgers mends it, and one back tells the net again.
func TestSlipBack(t *testing.T) {
	var d dice
	for _, n := range d.smallNets(4) {
		for _, core := range impl.Cores(n) {
			mended, ok := impl.Slip(n, core.X, core.Y, core.B)
			if !ok {
				continue
			}
			if left := impl.Cores(mended); len(left) != len(impl.Cores(n))-1 || slices.Contains(left, core) {
				t.Error(n, core, left)
			}
			if back, ok := impl.Slip(mended, core.X, core.Y, -core.B); !ok || !sameNet(back, n) {
				t.Error(n, core, back)
			}
		}
	}
}

func TestSlipRefuses(t *testing.T) {
	var d dice
	for _, size := range [][2]int64{{1, 1}, {1, 3}, {3, 1}, {2, 2}, {3, 4}, {4, 2}} {
		for _, n := range d.nets(size[0], size[1]) {
			for _, x := range edgePlaces(n.W) {
				for _, y := range edgePlaces(n.H) {
					for _, by := range []int64{0, 3} {
						want, right := slipByRule(n, x, y, by)
						if got, ok := impl.Slip(n, x, y, by); ok != right || !sameNet(got, want) {
							t.Error(n, x, y, by, got, ok)
						}
					}
				}
			}
		}
	}
}

func TestSlipLimits(t *testing.T) {
	low, high := blankNet(3, 4), blankNet(3, 4)
	for _, place := range []int{3, 5, 7} { // the Rights at (1, 1), (1, 2), (1, 3)
		low.Right[place], high.Right[place] = -slipMost, slipMost
	}
	wrong := []int64{2*slipMost + 1, 2*slipMost + 2, 1 << 32, 1 << 62, math.MaxInt64 - 1, math.MaxInt64}
	for _, by := range append(wrong, 1, 0) {
		if got, ok := impl.Slip(high, 1, 0, by); ok != (by == 0) || isZeroNet(got) == ok {
			t.Error(by, got)
		}
		if got, ok := impl.Slip(low, 1, 0, -by); ok != (by == 0) || isZeroNet(got) == ok {
			t.Error(-by, got)
		}
	}
	for _, by := range append(wrong, math.MinInt64, math.MinInt64+1) {
		for _, n := range []impl.Net{low, high, blankNet(3, 4)} {
			for _, by := range []int64{by, -by} {
				if got, ok := impl.Slip(n, 1, 0, by); ok || !isZeroNet(got) {
					t.Error(by, got)
				}
			}
		}
	}
	if got, ok := impl.Slip(low, 1, 0, 2*slipMost); !ok || !sameNet(got, high) {
		t.Error(got, ok)
	}
	if got, ok := impl.Slip(high, 1, 0, -2*slipMost); !ok || !sameNet(got, low) {
		t.Error(got, ok)
	}
	for _, by := range []int64{slipMost, slipMost + 1, -slipMost, -slipMost - 1} {
		got, ok := impl.Slip(blankNet(3, 4), 1, 2, by)
		if ok != (by == slipMost || by == -slipMost) || ok && got.Right[7] != by || !ok && !isZeroNet(got) {
			t.Error(by, got, ok)
		}
	}
}

// One number that would pass the limit is enough, wherever it is; one below the
// square, or beside it, is none that changes.
func TestSlipPastTheLimitInOneRow(t *testing.T) {
	for _, sign := range []int64{1, -1} {
		for place := range 12 {
			n := blankNet(4, 4)
			n.Right[place] = sign * (slipMost - 2)
			for by := int64(1); by < 5; by++ {
				want, right := slipByRule(n, 1, 1, sign*by)
				got, ok := impl.Slip(n, 1, 1, sign*by)
				if ok != right || !sameNet(got, want) || ok != (by < 3 || place != 7 && place != 10) {
					t.Error(place, sign*by, got, ok)
				}
			}
		}
	}
}

func TestShiftedByHand(t *testing.T) {
	n := impl.Net{W: 3, H: 2, Right: []int64{1, 2, 0, 0}, Up: []int64{0, 0, 4}}
	for _, c := range []struct{ field, right, up []int64 }{
		{[]int64{0, 0, 0, 0, 0, 0}, []int64{1, 2, 0, 0}, []int64{0, 0, 4}},
		{[]int64{7, 7, 7, 7, 7, 7}, []int64{1, 2, 0, 0}, []int64{0, 0, 4}},
		{[]int64{0, 5, 0, 0, 0, 0}, []int64{6, -3, 0, 0}, []int64{0, -5, 4}},
		{[]int64{1, 0, 0, 0, 0, 0}, []int64{0, 2, 0, 0}, []int64{-1, 0, 4}},
		{[]int64{0, 0, 0, 0, 0, 9}, []int64{1, 2, 0, 9}, []int64{0, 0, 13}},
		{[]int64{1, 20, 300, 4000, 50000, 600000}, []int64{20, 282, 46000, 550000}, []int64{3999, 49980, 599704}},
	} {
		if got, ok := impl.Shifted(n, c.field); !ok || !sameNet(got, impl.Net{W: 3, H: 2, Right: c.right, Up: c.up}) {
			t.Error(c, got, ok)
		}
	}
	one := impl.Net{W: 1, H: 1}
	for _, n := range []int64{0, 1, slipMost, -slipMost} {
		if got, ok := impl.Shifted(one, []int64{n}); !ok || !sameNet(got, one) {
			t.Error(n, got, ok)
		}
	}
}

// slope: a field of which no two sites beside one another have one number.
func slope(w, h, sign int64) []int64 {
	field := []int64{}
	for y := range h {
		for x := range w {
			field = append(field, sign*(x*x+x+7*y+3*x*y+1))
		}
	}
	return field
}

// P14: Shifted changes no Burgers.
func TestShiftedChangesNoBurgers(t *testing.T) {
	var d dice
	done := 0
	for _, n := range append(d.smallNets(5), d.net(netMost, netMost, 900000), d.net(netMost, 3, 900000)) {
		for _, field := range [][]int64{slope(n.W, n.H, 1), slope(n.W, n.H, -1), d.numbers(int(n.W*n.H), 9), d.numbers(int(n.W*n.H), slipMost/2)} {
			want, right := shiftedByRule(n, field)
			got, ok := impl.Shifted(n, field)
			if ok != right || !sameNet(got, want) {
				t.Fatal(n, field, got, ok)
			}
			if !ok {
				continue
			}
			done++
			if !slices.Equal(squaresByRule(got), squaresByRule(n)) || !slices.Equal(impl.Cores(got), impl.Cores(n)) {
				t.Fatal(n, field, got)
			}
		}
	}
	if done < 500 {
		t.Error("too few fields:", done)
	}
}

// P14: no Burgers changes, also where every number does.
func TestShiftedChangesEveryNumber(t *testing.T) {
	for w := int64(1); w < 7; w++ {
		for h := int64(1); h < 7; h++ {
			n := netOf(w, h, func(s step) int64 { return s.x - 2*s.y })
			got, ok := impl.Shifted(n, slope(w, h, 1))
			if !ok || len(got.Right) != len(n.Right) || len(got.Up) != len(n.Up) {
				t.Fatal(w, h, got)
			}
			for i := range n.Right {
				if got.Right[i] == n.Right[i] {
					t.Error(w, h, i)
				}
			}
			for i := range n.Up {
				if got.Up[i] == n.Up[i] {
					t.Error(w, h, i)
				}
			}
			for _, square := range squaresByRule(n) {
				if b, ok := impl.Burgers(got, square.X, square.Y); !ok || b != square.B {
					t.Error(w, h, square, b)
				}
			}
		}
	}
}

// A net without any Burgers is made from nothing by a field, and a field and
// its opposite are nothing together.
func TestShiftedBack(t *testing.T) {
	var d dice
	for range 200 {
		w, h := d.between(1, 6), d.between(1, 6)
		field := d.numbers(int(w*h), slipMost/2)
		opposite := []int64{}
		for _, n := range field {
			opposite = append(opposite, -n)
		}
		made, ok := impl.Shifted(blankNet(w, h), field)
		if !ok || len(impl.Cores(made)) != 0 {
			t.Error(w, h, field, made)
		}
		if back, ok := impl.Shifted(made, opposite); !ok || !sameNet(back, blankNet(w, h)) {
			t.Error(w, h, field, back)
		}
	}
}

func TestShiftedRefuses(t *testing.T) {
	var d dice
	for _, size := range [][2]int64{{1, 1}, {1, 3}, {3, 1}, {2, 2}, {3, 2}, {netMost, netMost}} {
		count := int(size[0] * size[1])
		for _, n := range d.nets(size[0], size[1]) {
			for _, wrong := range []int{count - 1, count + 1, 0, 2 * count} {
				if got, ok := impl.Shifted(n, make([]int64, wrong)); ok || !isZeroNet(got) {
					t.Error(size, wrong, got)
				}
			}
			for _, number := range []int64{slipMost, -slipMost, slipMost + 1, -slipMost - 1, 1 << 32, math.MaxInt64, math.MinInt64, math.MinInt64 + 1} {
				// all alike, so that no step's number would change
				got, ok := impl.Shifted(n, filled(count, number))
				if ok != (number == slipMost || number == -slipMost) || ok && !sameNet(got, n) || !ok && !isZeroNet(got) {
					t.Error(size, number, got)
				}
				for _, place := range []int{0, count / 2, count - 1} {
					field := make([]int64, count)
					field[place] = number
					want, right := shiftedByRule(n, field)
					if got, ok := impl.Shifted(n, field); ok != right || !sameNet(got, want) {
						t.Error(size, number, place, ok)
					}
				}
			}
		}
	}
}

// What comes is a net just up to MaxSlip, at every step.
func TestShiftedPastTheLimitAtOneStep(t *testing.T) {
	for _, sign := range []int64{1, -1} {
		for place := range 12 {
			n := blankNet(3, 3)
			numbers := n.Right
			if place >= 6 {
				numbers = n.Up
			}
			numbers[place%6] = sign * (slipMost - 5)
			begin, end := place/2*3+place%2, place/2*3+place%2+1
			if place >= 6 {
				begin, end = place-6, place-3
			}
			for by := int64(4); by < 8; by++ {
				for _, at := range []int{begin, end} {
					field := make([]int64, 9)
					field[at] = sign * by
					if at == begin {
						field[at] = -sign * by
					}
					got, ok := impl.Shifted(n, field)
					if want, right := shiftedByRule(n, field); ok != right || ok != (by < 6) || !sameNet(got, want) {
						t.Error(place, sign*by, at, got, ok)
					}
				}
			}
		}
	}
	n := impl.Net{W: 2, H: 1, Right: []int64{-slipMost}}
	if got, ok := impl.Shifted(n, []int64{-slipMost, slipMost}); !ok || !sameNet(got, impl.Net{W: 2, H: 1, Right: []int64{slipMost}}) {
		t.Error(got, ok)
	}
	n = impl.Net{W: 1, H: 2, Up: []int64{1 - slipMost}}
	if got, ok := impl.Shifted(n, []int64{-slipMost, slipMost}); ok || !isZeroNet(got) {
		t.Error(got, ok)
	}
}

func TestCoresByHand(t *testing.T) {
	want := []impl.Core{{X: 0, Y: 0, B: -226}, {X: 1, Y: 0, B: -3160}, {X: 0, Y: 1, B: -68700}, {X: 1, Y: 1, B: -876000}}
	if got := impl.Cores(handNet()); !slices.Equal(got, want) {
		t.Error(got)
	}
	n := blankNet(4, 3)
	n.Right[4] = 2 // the step from (1, 1), above the square (1, 0), below (1, 1)
	if got := impl.Cores(n); !slices.Equal(got, []impl.Core{{X: 1, Y: 0, B: -2}, {X: 1, Y: 1, B: 2}}) {
		t.Error(got)
	}
	n = blankNet(4, 3)
	n.Up[6] = 3 // the step from (2, 1), right of the square (1, 1), left of (2, 1)
	if got := impl.Cores(n); !slices.Equal(got, []impl.Core{{X: 1, Y: 1, B: 3}, {X: 2, Y: 1, B: -3}}) {
		t.Error(got)
	}
}

func TestCoresByRule(t *testing.T) {
	var d dice
	none, some, all := 0, 0, 0
	for _, n := range append(d.smallNets(6), d.nets(netMost, netMost)...) {
		got := impl.Cores(n)
		if !slices.Equal(got, coresByRule(n)) {
			t.Error(n, got)
		}
		switch squares := int((n.W - 1) * (n.H - 1)); {
		case len(got) == 0:
			none++
		case len(got) < squares:
			some++
		case squares > 1:
			all++
		}
		if !slices.IsSortedFunc(got, func(a, b impl.Core) int {
			return slices.Compare([]int64{a.Y, a.X}, []int64{b.Y, b.X})
		}) {
			t.Error(n, got)
		}
	}
	if min(none, some, all) < 20 {
		t.Error(none, some, all)
	}
}

// A net whose two lists are one in memory is as good as any.
func TestNetOfOneList(t *testing.T) {
	list := []int64{3, 5, 7, 9}
	n := impl.Net{W: 2, H: 2, Right: list[:2], Up: list[:2]}
	if b, ok := impl.Burgers(n, 0, 0); !ok || b != 0 {
		t.Error(b)
	}
	if got, ok := impl.Slip(n, 0, 0, 4); !ok || !sameNet(got, impl.Net{W: 2, H: 2, Right: []int64{3, 9}, Up: []int64{3, 5}}) || !shareNothing([][]int64{got.Right, got.Up}) {
		t.Error(got, ok)
	}
	if got, ok := impl.Shifted(n, list); !ok || !sameNet(got, impl.Net{W: 2, H: 2, Right: []int64{5, 7}, Up: []int64{7, 9}}) || !shareNothing([][]int64{got.Right, got.Up}) {
		t.Error(got, ok)
	}
	if got, ok := impl.Deposit(list, list); !ok || sumOfHeights(got) != 28 {
		t.Error(got, ok)
	}
	if !slices.Equal(list, []int64{3, 5, 7, 9}) {
		t.Error(list)
	}
}

// spoilNumbers writes over all that an answer's memory has.
func spoilNumbers(lists ...[]int64) {
	for _, list := range lists {
		list = list[:cap(list)]
		for i := range list {
			list[i] = -9
		}
	}
}

func TestGrowthArgumentsStay(t *testing.T) {
	var d dice
	for _, count := range []int{1, 2, 5, 60} {
		for _, first := range []int64{4, heightMost, -1} {
			heights, coins := append(d.heights(count, 9), 77, -5, 3), append(d.coins(count), 0, -7, 1)
			heights[0] = first
			wantHeights, wantCoins := slices.Clone(heights), slices.Clone(coins)
			grown, _ := impl.Deposit(heights[:count], coins[:count])
			etched, _ := impl.Etch(heights[:count], coins[:count])
			impl.Steps(heights[:count])
			spoilNumbers(grown, etched)
			if !slices.Equal(heights, wantHeights) || !slices.Equal(coins, wantCoins) {
				t.Error(heights, coins)
			}
		}
	}
	for _, n := range append(d.smallNets(3), spoiltNets(2, 3)...) {
		field := d.numbers(int(n.W*n.H), 9)
		room := impl.Net{W: n.W, H: n.H, Right: append(n.Right, 77, -5), Up: append(n.Up, 78, slipMost+1)}
		wantRoom, wantField, right, up := cloneNet(room), slices.Clone(field), len(n.Right), len(n.Up)
		n = impl.Net{W: n.W, H: n.H, Right: room.Right[:right], Up: room.Up[:up]}
		slipped, _ := impl.Slip(n, 0, 0, 1)
		shifted, _ := impl.Shifted(n, field)
		impl.NetOk(n)
		impl.Burgers(n, 0, 0)
		impl.Around(n, 0, 0, 1, 1)
		impl.Cores(n)
		spoilNumbers(slipped.Right, slipped.Up, shifted.Right, shifted.Up)
		if !sameNet(room, wantRoom) || !slices.Equal(field, wantField) {
			t.Error(room, field)
		}
	}
}

// What lies behind a list's length is not of it.
func TestGrowthLeavesOutWhatLiesBehind(t *testing.T) {
	heights, coins := []int64{4, 6, -1, heightMost + 1}, []int64{1, 0, -1, math.MinInt64}
	if got, ok := impl.Deposit(heights[:2], coins[:2]); !ok || !slices.Equal(got, []int64{6, 6}) {
		t.Error(got, ok)
	}
	if got, taken := impl.Etch(heights[:2], coins[:2]); taken != 1 || !slices.Equal(got, []int64{4, 5}) {
		t.Error(got, taken)
	}
	if rises, sum := impl.Steps(heights[:2]); rises != 1 || sum != 4 {
		t.Error(rises, sum)
	}
	if _, ok := impl.Deposit(make([]int64, 0, 5), nil); ok {
		t.Error("room is no site")
	}
	if impl.NetOk(impl.Net{W: 2, H: 2, Right: make([]int64, 1, 2), Up: make([]int64, 2)}) {
		t.Error("room is no number")
	}
	long := impl.Net{W: 2, H: 2, Right: []int64{1, 2, math.MaxInt64}[:2], Up: []int64{3, 4, math.MinInt64}[:2]}
	if b, ok := impl.Burgers(long, 0, 0); !ok || b != 0 {
		t.Error(b, ok)
	}
}

func TestGrowthAnswersAreNewMemory(t *testing.T) {
	var d dice
	for _, count := range []int{1, 2, 5, 60} {
		heights, coins := d.heights(count, 9), d.coins(count)
		for _, coins := range [][]int64{nil, coins} {
			checkNewList(t, "Deposit", func() []int64 { got, _ := impl.Deposit(heights, coins); return got })
			checkNewList(t, "Etch", func() []int64 { got, _ := impl.Etch(heights, coins); return got })
		}
	}
	n := handNet()
	for _, by := range []int64{0, 5} {
		checkNewList(t, "Slip's Right", func() []int64 { got, _ := impl.Slip(n, 0, 0, by); return got.Right })
		checkNewList(t, "Slip's Up", func() []int64 { got, _ := impl.Slip(n, 0, 0, by); return got.Up })
		checkNewList(t, "Shifted's Right", func() []int64 { got, _ := impl.Shifted(n, slope(3, 3, by)); return got.Right })
		checkNewList(t, "Shifted's Up", func() []int64 { got, _ := impl.Shifted(n, slope(3, 3, by)); return got.Up })
	}
	checkNewList(t, "Cores", func() []impl.Core { return impl.Cores(n) })
	slipped, _ := impl.Slip(n, 0, 0, 5)
	shifted, _ := impl.Shifted(n, slope(3, 3, 2))
	if !shareNothing([][]int64{n.Right, n.Up, slipped.Right, slipped.Up, shifted.Right, shifted.Up}) {
		t.Error("two lists share memory")
	}
}

// Every call answers the same, one behind the other and all at once.
func TestGrowthAnswersTheSame(t *testing.T) {
	var all sync.WaitGroup
	for start := range 8 {
		all.Go(func() {
			d := dice(start)
			heights, coins, n := d.heights(30, 20), d.coins(500), d.net(5, 5, 9)
			grown, _ := depositByRule(heights, coins)
			etched, count := etchByRule(heights, coins)
			cores := coresByRule(n)
			for range 20 {
				if got, ok := impl.Deposit(heights, coins); !ok || !slices.Equal(got, grown) {
					t.Error(start, got)
				}
				if got, taken := impl.Etch(heights, coins); taken != count || !slices.Equal(got, etched) {
					t.Error(start, got)
				}
				if got := impl.Cores(n); !slices.Equal(got, cores) {
					t.Error(start, got)
				}
			}
		})
	}
	all.Wait()
}

// wildList: numbers that are likely to be as is wanted, or one of them is not.
func (d *dice) wildList(count int, low, high int64) []int64 {
	list := []int64{}
	for range count {
		list = append(list, d.between(low, high))
	}
	switch d.between(0, 7) {
	case 0:
		list = append(list, d.wildNumber())
	case 1:
		list = list[:d.between(0, int64(count))]
	case 2, 3:
		if count > 0 {
			list[d.between(0, int64(count-1))] = d.wildNumber()
		}
	}
	return list
}

func (d *dice) wildNet() impl.Net {
	n := impl.Net{W: d.between(0, 5), H: d.between(0, 5)}
	most := []int64{2, 500, slipMost}[d.between(0, 2)]
	n.Right, n.Up = d.net(n.W, n.H, most).Right, d.net(n.W, n.H, most).Up
	switch d.between(0, 5) {
	case 0:
		n.W = d.wildNumber()
	case 1:
		n.H = d.wildNumber()
	case 2:
		n.Right = d.wildList(len(n.Right), -most, most)
		n.Up = d.wildList(len(n.Up), -most, most)
	}
	return n
}

func TestSurfacesAnswerAtEveryArgument(t *testing.T) {
	var d dice
	right := 0
	for range 3000 {
		heights := d.wildList(int(d.between(0, 12)), 0, []int64{3, 50, heightMost}[d.between(0, 2)])
		coins := d.wildList(int(d.between(0, 30)), 0, []int64{15, math.MaxInt64 - 1}[d.between(0, 1)])
		checkDeposit(t, heights, coins)
		checkEtch(t, heights, coins)
		checkSteps(t, heights)
		if _, ok := impl.Deposit(heights, coins); ok {
			right++
		}
	}
	if right < 500 {
		t.Error("too few were right:", right)
	}
}

func TestNetsAnswerAtEveryArgument(t *testing.T) {
	var d dice
	right := 0
	for range 3000 {
		n, at := d.wildNet(), []int64{d.between(-1, 2), d.between(-1, 2), d.between(0, 5), d.between(0, 5)}
		if d.between(0, 3) == 0 {
			at[d.between(0, 3)] = d.wildNumber()
		}
		if impl.NetOk(n) != isNetByRule(n) {
			t.Fatal(n)
		}
		want, fits := burgersByRule(n, at[0], at[1])
		if got, ok := impl.Burgers(n, at[0], at[1]); ok != fits || got != want {
			t.Fatal(n, at, got)
		}
		want, fits = aroundByRule(n, at[0], at[1], at[2], at[3])
		if got, ok := impl.Around(n, at[0], at[1], at[2], at[3]); ok != fits || got != want {
			t.Fatal(n, at, got)
		}
		by := []int64{at[2], d.wildNumber(), d.between(-2*slipMost, 2*slipMost)}[d.between(0, 2)]
		wantNet, fits := slipByRule(n, at[0], at[1], by)
		if got, ok := impl.Slip(n, at[0], at[1], by); ok != fits || !sameNet(got, wantNet) {
			t.Fatal(n, at, by, got)
		}
		field := d.wildList(len(n.Right)+int(d.between(0, 5)), -9, 9)
		if isNetByRule(n) {
			field = d.wildList(int(n.W*n.H), -9, 9)
		}
		wantNet, fits = shiftedByRule(n, field)
		if got, ok := impl.Shifted(n, field); ok != fits || !sameNet(got, wantNet) {
			t.Fatal(n, field, got)
		}
		if got := impl.Cores(n); !slices.Equal(got, coresByRule(n)) {
			t.Fatal(n, got)
		}
		if fits {
			right++
		}
	}
	if right < 500 {
		t.Error("too few were right:", right)
	}
}
