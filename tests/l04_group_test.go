package tests

import (
	"math"
	"slices"
	"strings"
	"testing"

	"loop.example/g00055/impl"
)

func showAll(g []impl.Op) string {
	texts := []string{}
	for _, o := range g {
		texts = append(texts, impl.OpShow(o))
	}
	return strings.Join(texts, " ; ")
}

func TestCloseOfKnownGroups(t *testing.T) {
	for _, s := range spaces() {
		gens := mustOps(t, s.gens...)
		g, ok := impl.Close(gens)
		if !ok || len(g) != s.order || !isGroupByRule(g) {
			t.Fatal(s.name, len(g), ok)
		}
		for _, o := range gens {
			if placeByRule(g, o) < 0 {
				t.Error(s.name, "lacks", impl.OpShow(o))
			}
		}
		if want, _ := closeByRule(gens); !sameOps(g, want) {
			t.Error(s.name, showAll(g))
		}
	}
}

func TestCloseByHand(t *testing.T) {
	for _, c := range [][2]string{
		{"", "x,y,z"},
		{"x,y,z", "x,y,z"},
		{"x,y,z ; x,y,z", "x,y,z"},
		{"-x,-y,-z", "-x,-y,-z ; x,y,z"},
		{"-x+1/24,-y,-z", "-x+1/24,-y,-z ; x,y,z"},
		{"-y,x,z+1/4", "-x,-y,z+1/2 ; -y,x,z+1/4 ; y,-x,z+3/4 ; x,y,z"},
		{"-y,x,z+1/2", "-x,-y,z ; -y,x,z+1/2 ; y,-x,z+1/2 ; x,y,z"},
		{"x+1/3,y,z", "x,y,z ; x+1/3,y,z ; x+2/3,y,z"},
		{"-x,-y,z+1/4", "-x,-y,z+1/4 ; -x,-y,z+3/4 ; x,y,z ; x,y,z+1/2"},
		{"-x,-y,-z ; -x,y+1/2,-z+1/2", "-x,-y,-z ; -x,y+1/2,-z+1/2 ; x,-y+1/2,z+1/2 ; x,y,z"},
		{"z,x,y", "z,x,y ; y,z,x ; x,y,z"},
		{"-x,x+y,-z", "-x,x+y,-z ; x,y,z"},
	} {
		gens := []impl.Op{}
		if c[0] != "" {
			gens = mustOps(t, strings.Split(c[0], " ; ")...)
		}
		g, ok := impl.Close(gens)
		if !ok || showAll(g) != c[1] {
			t.Error(c, showAll(g), ok)
		}
	}
	if g, ok := impl.Close(nil); !ok || showAll(g) != "x,y,z" {
		t.Error(g, ok)
	}
}

func TestCloseHangsOnNoOrderOfGenerators(t *testing.T) {
	var d dice
	for _, s := range spaces() {
		gens := mustOps(t, s.gens...)
		want, _ := impl.Close(gens)
		for range 5 {
			other := append(slices.Clone(gens), stillOp())
			for i := range other {
				k := d.between(0, int64(i))
				other[i], other[k] = other[k], other[i]
			}
			other = append(other, other[0])
			if got, ok := impl.Close(other); !ok || !sameOps(got, want) {
				t.Error(s.name, showAll(other), showAll(got), ok)
			}
		}
	}
}

func TestCloseTakesMaxGensAndNoMore(t *testing.T) {
	texts := []string{"-y,x,z", "z,x,y", "-x,-y,-z", "x+1/2,y+1/2,z", "x,y+1/2,z+1/2"}
	for _, c := range []struct {
		gens  []impl.Op
		order int
	}{
		{slices.Repeat(mustOps(t, "x,y,z"), 12), 1},
		{slices.Repeat(mustOps(t, "-y,x,z+1/4"), 12), 4},
		{append(slices.Repeat(mustOps(t, "-x,-y,-z"), 7), mustOps(t, texts...)...), 192},
	} {
		if g, ok := impl.Close(c.gens); len(c.gens) != impl.MaxGens || !ok || len(g) != c.order {
			t.Error(showAll(c.gens), len(g), ok)
		}
		more := append(slices.Clone(c.gens), c.gens[0])
		if g, ok := impl.Close(more); len(more) != 13 || ok || len(g) != 0 {
			t.Error(showAll(more), len(g), ok)
		}
		if g, ok := impl.Close(slices.Repeat(more, 100)); ok || len(g) != 0 {
			t.Error(len(g), ok)
		}
	}
}

func TestCloseTakesMaxGroupAndNoMore(t *testing.T) {
	for _, c := range []struct {
		gens string
		want int
	}{
		{"x+1/24,y,z ; x,y+1/8,z", 192},
		{"x+1/12,y,z ; x,y+1/4,z ; x,y,z+1/4", 192},
		{"x+1/6,y,z ; x,y+1/6,z ; x,y,z+1/6", 0},
		{"x+1/24,y,z ; x,y+1/8,z ; x,y,z+1/3", 0},
		{"x+1/24,y,z ; x,y+1/24,z ; x,y,z+1/24", 0},
		{"x+1/24,y,z ; x,y+1/4,z ; -x,-y,-z", 192},
		{"x+1/24,y,z ; x,y+1/8,z ; -x,-y,-z", 0},
		{"-y,x,z ; z,x,y ; -x,-y,-z ; x+1/2,y+1/2,z ; x,y+1/2,z+1/2", 192},
		{"-y,x,z ; z,x,y ; -x,-y,-z ; x+1/2,y,z", 0},
		{"-y,x,z ; z,x,y ; -x,-y,-z ; x+1/2,y+1/2,z ; x,y+1/2,z+1/2 ; x+1/24,y,z", 0},
		{"x-y,x,z ; y,x,-z ; -x,-y,-z ; x,y,z+1/8", 192},
		{"x-y,x,z ; y,x,-z ; -x,-y,-z ; x,y,z+1/12", 0},
	} {
		g, ok := impl.Close(mustOps(t, strings.Split(c.gens, " ; ")...))
		if len(g) != c.want || ok != (c.want > 0) {
			t.Error(c, len(g), ok)
		}
	}
}

func TestCloseOfWhatIsNotRight(t *testing.T) {
	good := mustOps(t, "-x,-y,-z", "x+1/2,y,z")
	for _, o := range wrongOps() {
		for _, gens := range [][]impl.Op{{o}, {o, good[0]}, {good[0], o}, {good[0], o, good[1]}, {stillOp(), stillOp(), o}} {
			if g, ok := impl.Close(gens); ok || len(g) != 0 {
				t.Error(gens, g, ok)
			}
		}
	}
	for _, gens := range []string{
		"x+y,y,z", "x-y,y,z", "x,y,z-x", "x+y,x,z", "x+y-z,y-z,z", "x+y-z,y+z,z",
		"-x,x+y,-z ; x-y,-y,-z", "-y,x,z ; x-y,x,z", "-y,x-y,z ; z,x,y", "x,y,z ; -x,-y,-z ; x+y,y,z+1/2",
		// These would make 12 Ops, of which some are not right.
		"x+z,-x,-x-y-z ; -x,y,-z",
	} {
		if g, ok := impl.Close(mustOps(t, strings.Split(gens, " ; ")...)); ok || len(g) != 0 {
			t.Error(gens, showAll(g), ok)
		}
	}
}

func TestCloseByRule(t *testing.T) {
	var d dice
	list := rightOps()
	draws := []func() impl.Op{d.frame, d.six, func() impl.Op { return list[d.between(0, int64(len(list)-1))] }}
	groups, not := 0, 0
	for i := range 1000 {
		gens := []impl.Op{}
		step := []int64{24, 12, 12, 8, 6}[d.between(0, 4)]
		for range d.between(0, 3) {
			o := draws[i%len(draws)]()
			for k := range o.T {
				o.T[k] = o.T[k] / step * step
			}
			gens = append(gens, o)
		}
		want, okWant := closeByRule(gens)
		got, ok := impl.Close(gens)
		if ok != okWant || !sameOps(got, want) {
			t.Fatal(showAll(gens), showAll(got), ok, okWant)
		}
		if ok {
			groups++
		} else {
			not++
		}
	}
	if groups < 150 || not < 150 {
		t.Error("too few of a kind", groups, not)
	}
}

func TestCloseIsWithinEveryGroupThatHasTheGenerators(t *testing.T) {
	var d dice
	for _, s := range spaces() {
		all := mustClose(t, s.gens...)
		for range 20 {
			gens := []impl.Op{}
			for range d.between(0, 3) {
				gens = append(gens, all[d.between(0, int64(len(all)-1))])
			}
			g, ok := impl.Close(gens)
			if !ok || !impl.GroupOk(g) || len(all)%len(g) != 0 {
				t.Fatal(s.name, showAll(gens), showAll(g), ok)
			}
			for _, o := range g {
				if placeByRule(all, o) < 0 {
					t.Fatal(s.name, showAll(gens), impl.OpShow(o))
				}
			}
			for _, o := range gens {
				if placeByRule(g, o) < 0 {
					t.Fatal(s.name, showAll(g), impl.OpShow(o))
				}
			}
		}
	}
}

func TestGroupOkOfGroups(t *testing.T) {
	for _, s := range spaces() {
		if want, _ := closeByRule(mustOps(t, s.gens...)); !impl.GroupOk(want) {
			t.Error(s.name)
		}
	}
	if !impl.GroupOk([]impl.Op{stillOp()}) {
		t.Error("one Op")
	}
}

func TestGroupOkByRule(t *testing.T) {
	var d dice
	groups, not := 0, 0
	for _, s := range spaces() {
		g := mustClose(t, s.gens...)
		for range 24 {
			h := cloneOps(g)
			i, k := int(d.between(0, int64(len(h)-1))), int(d.between(0, int64(len(h)-1)))
			switch d.between(0, 5) {
			case 0:
				h[i], h[k] = h[k], h[i]
			case 1:
				h = slices.Delete(h, i, i+1)
			case 2:
				h = slices.Insert(h, i, cloneOp(h[i]))
			case 3:
				h[i].T[d.between(0, 2)] = d.between(-1, 24)
			case 4:
				h[i].M[d.between(0, 8)] = d.between(-1, 1)
			}
			got := impl.GroupOk(h)
			if got != isGroupByRule(h) {
				t.Fatal(s.name, showAll(h), got)
			}
			if got {
				groups++
			} else {
				not++
			}
		}
	}
	if groups < 50 || not < 50 {
		t.Error("too few of a kind", groups, not)
	}
}

func TestGroupOkOfManyLists(t *testing.T) {
	// Of lists of few Ops some are groups by chance.
	few := sortedByRule(mustOps(t, "x,y,z", "-x,-y,-z", "-x,-y,z", "x,y,-z", "x+1/2,y,z", "-x+1/2,-y,z", "-y,x,z", "y,-x,z"))
	count := 0
	for set := range 1 << len(few) {
		g := []impl.Op{}
		for i, o := range few {
			if set>>i&1 == 1 {
				g = append(g, o)
			}
		}
		got := impl.GroupOk(g)
		if got != isGroupByRule(g) {
			t.Fatal(showAll(g), got)
		}
		if got {
			count++
		}
	}
	if count != 9 {
		t.Error("so many are groups:", count)
	}
}

func TestWhatIsNoGroup(t *testing.T) {
	g := mustClose(t, "-x,-y,-z", "-x,y+1/2,-z+1/2")
	for name, no := range notGroups(t) {
		if impl.GroupOk(no) {
			t.Error(name, "GroupOk")
		}
		if got := impl.PointGroup(no); len(got) != 0 {
			t.Error(name, "PointGroup", got)
		}
		if got := impl.Kinds(no); len(got) != 0 {
			t.Error(name, "Kinds", got)
		}
		if got, ok := impl.Turned(no, stillOp()); ok || len(got) != 0 {
			t.Error(name, "Turned", got, ok)
		}
		if impl.SameKind(no, g) || impl.SameKind(g, no) || impl.SameKind(no, no) {
			t.Error(name, "SameKind")
		}
		for _, pair := range [][2][]impl.Op{{no, g}, {g, no}, {no, no}, {no, {stillOp()}}} {
			if got := impl.Cosets(pair[0], pair[1]); len(got) != 0 {
				t.Error(name, "Cosets", got)
			}
		}
		if got := impl.Table(no); len(got) != 0 {
			t.Error(name, "Table", got)
		}
	}
}

func TestPointGroupByHand(t *testing.T) {
	for _, c := range [][2]string{
		{"x,y,z", "x,y,z"},
		{"x+1/24,y,z ; x,y+1/8,z", "x,y,z"},
		{"-x,-y,-z ; -x,y+1/2,-z+1/2", "-x,-y,-z ; -x,y,-z ; x,-y,z ; x,y,z"},
		{"-y,x,z+1/4", "-x,-y,z ; -y,x,z ; y,-x,z ; x,y,z"},
		{"-y,x-y,z+1/3 ; x+2/3,y+1/3,z+1/3", "-x+y,-x,z ; -y,x-y,z ; x,y,z"},
	} {
		g := mustClose(t, strings.Split(c[0], " ; ")...)
		if got := showAll(impl.PointGroup(g)); got != c[1] {
			t.Error(c, got)
		}
	}
}

func TestPointGroupTimesShiftsIsTheOrder(t *testing.T) {
	for _, s := range spaces() {
		g := mustClose(t, s.gens...)
		p := impl.PointGroup(g)
		shifts, turns := 0, map[[12]int64]int{}
		for _, o := range g {
			if slices.Equal(o.M, unit()) {
				shifts++
			}
			turns[numbersOf(impl.Op{M: o.M, T: make([]int64, 3)})]++
		}
		if shifts != s.shifts || len(p)*shifts != len(g) || len(p) != len(turns) || !isGroupByRule(p) {
			t.Error(s.name, len(p), shifts, len(g))
		}
		for _, o := range p {
			if turns[numbersOf(o)] != shifts {
				t.Error(s.name, impl.OpShow(o))
			}
		}
		if again := impl.PointGroup(p); !sameOps(again, p) {
			t.Error(s.name, showAll(again))
		}
	}
}

func TestKindsByHand(t *testing.T) {
	for _, c := range []struct {
		names string
		want  []impl.Kind
	}{
		{"P1,shifts alone", []impl.Kind{{Order: 1, Det: 1, Trace: 3, Count: 1}}},
		{"P2,P21,a slanting axis", []impl.Kind{{Order: 1, Det: 1, Trace: 3, Count: 1}, {Order: 2, Det: 1, Trace: -1, Count: 1}}},
		{"Pm", []impl.Kind{{Order: 1, Det: 1, Trace: 3, Count: 1}, {Order: 2, Det: -1, Trace: 1, Count: 1}}},
		{"P21/c,C2/c", []impl.Kind{
			{Order: 1, Det: 1, Trace: 3, Count: 1}, {Order: 2, Det: -1, Trace: -3, Count: 1},
			{Order: 2, Det: -1, Trace: 1, Count: 1}, {Order: 2, Det: 1, Trace: -1, Count: 1}}},
		{"P41", []impl.Kind{
			{Order: 1, Det: 1, Trace: 3, Count: 1}, {Order: 2, Det: 1, Trace: -1, Count: 1}, {Order: 4, Det: 1, Trace: 1, Count: 2}}},
		{"P3,P31", []impl.Kind{{Order: 1, Det: 1, Trace: 3, Count: 1}, {Order: 3, Det: 1, Trace: 0, Count: 2}}},
		{"P6/mmm,P63/mmc", []impl.Kind{
			{Order: 1, Det: 1, Trace: 3, Count: 1}, {Order: 2, Det: -1, Trace: -3, Count: 1},
			{Order: 2, Det: -1, Trace: 1, Count: 7}, {Order: 2, Det: 1, Trace: -1, Count: 7},
			{Order: 3, Det: 1, Trace: 0, Count: 2}, {Order: 6, Det: -1, Trace: -2, Count: 2},
			{Order: 6, Det: -1, Trace: 0, Count: 2}, {Order: 6, Det: 1, Trace: 2, Count: 2}}},
		{"Pm-3m,Im-3m,Fm-3m,Fd-3m,Ia-3d", []impl.Kind{
			{Order: 1, Det: 1, Trace: 3, Count: 1}, {Order: 2, Det: -1, Trace: -3, Count: 1},
			{Order: 2, Det: -1, Trace: 1, Count: 9}, {Order: 2, Det: 1, Trace: -1, Count: 9},
			{Order: 3, Det: 1, Trace: 0, Count: 8}, {Order: 4, Det: -1, Trace: -1, Count: 6},
			{Order: 4, Det: 1, Trace: 1, Count: 6}, {Order: 6, Det: -1, Trace: 0, Count: 8}}},
	} {
		for _, s := range spaces() {
			if !slices.Contains(strings.Split(c.names, ","), s.name) {
				continue
			}
			if got := impl.Kinds(mustClose(t, s.gens...)); !slices.Equal(got, c.want) {
				t.Error(s.name, got)
			}
		}
	}
}

func TestKindsByRule(t *testing.T) {
	for _, s := range spaces() {
		g := mustClose(t, s.gens...)
		counts := map[[3]int64]int64{}
		for _, o := range impl.PointGroup(g) {
			counts[[3]int64{orderByRule(o), detByRule(o.M).Int64(), o.M[0] + o.M[4] + o.M[8]}]++
		}
		kinds, sum := impl.Kinds(g), int64(0)
		for i, k := range kinds {
			now := [3]int64{k.Order, k.Det, k.Trace}
			if i > 0 {
				last := [3]int64{kinds[i-1].Order, kinds[i-1].Det, kinds[i-1].Trace}
				if slices.Compare(last[:], now[:]) >= 0 {
					t.Error(s.name, kinds)
				}
			}
			if k.Count == 0 || counts[now] != k.Count {
				t.Error(s.name, k, counts)
			}
			sum += k.Count
		}
		if sum*int64(s.shifts) != int64(s.order) || len(kinds) != len(counts) {
			t.Error(s.name, kinds)
		}
	}
}

func TestTurnedByHand(t *testing.T) {
	for _, c := range [][3]string{
		{"x,y,z", "x-y,x,z+1/24", "x,y,z"},
		{"-x,y+1/2,-z", "z,x,y", "-x,-y,z+1/2 ; x,y,z"},
		{"-x,y+1/2,-z", "y,z,x", "x+1/2,-y,-z ; x,y,z"},
		{"-x,-y,-z", "x+1/24,y,z+1/2", "-x+1/12,-y,-z ; x,y,z"},
		{"-y,x,z+1/4", "x,y,-z", "-x,-y,z+1/2 ; -y,x,z+3/4 ; y,-x,z+1/4 ; x,y,z"},
		{"-y,x,z+1/4", "x+1/2,y,z+1/3", "-x,-y,z+1/2 ; -y+1/2,x+1/2,z+1/4 ; y+1/2,-x+1/2,z+3/4 ; x,y,z"},
		{"-x,-y,z", "x+y,y,z", "-x,-y,z ; x,y,z"},
		{"-x,x+y,-z", "x,x+y,z", "-x,-x+y,-z ; x,y,z"},
	} {
		got, ok := impl.Turned(mustClose(t, c[0]), mustOp(t, c[1]))
		if !ok || showAll(got) != c[2] {
			t.Error(c, showAll(got), ok)
		}
	}
}

func TestTurnedRefuses(t *testing.T) {
	for _, s := range []string{"x,y,z", "-x,-y,-z", "-y,x,z+1/4"} {
		g := mustClose(t, s)
		for _, by := range append(wrongOps(), mustOp(t, "x+y-z,y+z,z"), mustOp(t, "x+y-z,y+z,z+1/24")) {
			if got, ok := impl.Turned(g, by); ok || len(got) != 0 {
				t.Error(s, by, got, ok)
			}
		}
	}
	for _, c := range [][2]string{
		{"-x,y,-z", "x,x+y,z"},
		{"-y,x,z", "x+y,y,z"},
		// Here by * o is not right, though it is again with the way back behind it.
		{"y,x,-x-y-z", "-y,x-y-z,-y-z"},
	} {
		if got, ok := impl.Turned(mustClose(t, c[0]), mustOp(t, c[1])); ok || len(got) != 0 {
			t.Error(c, showAll(got), ok)
		}
	}
}

func TestTurnedByRuleAndBackIsNothing(t *testing.T) {
	var d dice
	list := rightOps()
	right, not := 0, 0
	for _, s := range spaces() {
		g := mustClose(t, s.gens...)
		for i := range 60 {
			by := list[d.between(0, int64(len(list)-1))]
			if i%3 == 0 {
				by = d.frame()
			}
			got, ok := impl.Turned(g, by)
			want, okWant := turnedByRule(g, by)
			if ok != okWant || !sameOps(got, want) {
				t.Fatal(s.name, impl.OpShow(by), showAll(got), ok, okWant)
			}
			if !ok {
				not++
				continue
			}
			right++
			if !impl.GroupOk(got) || !slices.Equal(impl.Kinds(got), impl.Kinds(g)) {
				t.Fatal(s.name, impl.OpShow(by), showAll(got))
			}
			back, _ := impl.OpBack(by)
			if again, ok := impl.Turned(got, back); !ok || !sameOps(again, g) {
				t.Fatal(s.name, impl.OpShow(by), showAll(again), ok)
			}
		}
	}
	if right < 200 || not < 200 {
		t.Error("too few of a kind", right, not)
	}
}

func TestFrames(t *testing.T) {
	got := impl.Frames()
	if len(got) != 48 || !sameOps(got, framesByRule()) || !impl.GroupOk(got) {
		t.Error(showAll(got))
	}
	if impl.OpShow(got[0]) != "-x,-y,-z" || impl.OpShow(got[47]) != "x,y,z" {
		t.Error(showAll(got))
	}
}

func TestSameKindByHand(t *testing.T) {
	for _, c := range []struct {
		a, b string
		want bool
	}{
		{"x,y,z", "x,y,z", true},
		{"x,y,z", "-x,-y,-z", false},
		{"-x,y,-z", "-x,-y,z", true},
		{"-x,y+1/2,-z", "-x,-y,z+1/2", true},
		{"-x,y+1/2,-z", "-x,-y,z", false},
		{"-x,y,-z", "x,-y,z", false},
		{"-y,x,z", "x,-z,y", true},
		{"-y,x,z+1/4", "-y,x,z+3/4", true},
		{"-y,x,z+1/4", "-y,x,z+1/2", false},
		{"-y,x,z", "y,-x,-z", false},
		{"-x,-y,-z", "-x+1/2,-y,-z", false},
		{"x,-y,z+1/2", "x+1/2,-y,z", true},
		{"x,-y,z+1/2", "x+1/2,-y,z+1/2", false},
		{"x+1/24,y,z", "x,y,z+23/24", true},
		{"x+1/3,y,z", "x+1/3,y+1/3,z", false},
		{"-y,x-y,z", "z,x,y", false},
		{"-y,x-y,z", "x,-z,y-z", true},
		{"-x,x+y,-z", "-x,y,-z", false},
		{"-x,x+y,-z", "-x,-y,z-x", true},
	} {
		a, b := mustClose(t, c.a), mustClose(t, c.b)
		if got := impl.SameKind(a, b); got != c.want || got != sameKindByRule(a, b) || impl.SameKind(b, a) != got {
			t.Error(c, got)
		}
	}
}

func TestSameKindOfEveryFrame(t *testing.T) {
	var d dice
	for _, s := range spaces() {
		g := mustClose(t, s.gens...)
		for i, by := range framesByRule() {
			if s.order > 50 && i%8 != 0 {
				continue
			}
			turned, _ := turnedByRule(g, by)
			if !impl.SameKind(g, turned) || !impl.SameKind(turned, g) {
				t.Fatal(s.name, impl.OpShow(by))
			}
		}
		if s.order > 50 {
			continue
		}
		for range 5 {
			shifted, ok := turnedByRule(g, impl.Op{M: unit(), T: d.shifts()})
			if got := impl.SameKind(g, shifted); !ok || got != sameKindByRule(g, shifted) {
				t.Fatal(s.name, showAll(shifted), got, ok)
			}
		}
	}
}

func TestSameKindOfUnlikeGroups(t *testing.T) {
	list := spaces()
	for i, a := range list {
		for _, b := range list[:i] {
			if impl.SameKind(mustClose(t, a.gens...), mustClose(t, b.gens...)) {
				t.Error(a.name, b.name)
			}
		}
	}
}

func showParts(parts [][]impl.Op) string {
	texts := []string{}
	for _, part := range parts {
		texts = append(texts, showAll(part))
	}
	return strings.Join(texts, " | ")
}

func TestCosetsByHand(t *testing.T) {
	for _, c := range [][3]string{
		{"x,y,z", "x,y,z", "x,y,z"},
		{"-x,-y,-z", "x,y,z", "-x,-y,-z | x,y,z"},
		{"-x,-y,-z", "-x,-y,-z", "-x,-y,-z ; x,y,z"},
		{"-y,x,z", "-x,-y,z", "-x,-y,z ; x,y,z | -y,x,z ; y,-x,z"},
		{"-y,x,z+1/4", "-x,-y,z+1/2", "-x,-y,z+1/2 ; x,y,z | -y,x,z+1/4 ; y,-x,z+3/4"},
		{"x+1/4,y,z", "x+1/2,y,z", "x,y,z ; x+1/2,y,z | x+1/4,y,z ; x+3/4,y,z"},
		// The parts p * o would be others here.
		{"z,x,y ; y,x,z", "y,x,z", "z,y,x ; z,x,y | y,z,x ; x,z,y | y,x,z ; x,y,z"},
	} {
		g := mustClose(t, strings.Split(c[0], " ; ")...)
		got := impl.Cosets(g, mustClose(t, c[1]))
		if showParts(got) != c[2] {
			t.Error(c, showParts(got))
		}
	}
}

func TestCosetsOfWhatIsNotWithin(t *testing.T) {
	for _, c := range [][2]string{
		{"x,y,z", "-x,-y,-z"}, {"-x,-y,-z", "-x,-y,z"}, {"-y,x,z+1/4", "-x,-y,z"}, {"-x,y+1/2,-z", "-x,y,-z"},
		{"-x,-y,z", "-y,x,z"}, {"x+1/2,y,z", "x+1/4,y,z"}, {"x+1/3,y,z", "x+1/2,y,z"},
	} {
		if got := impl.Cosets(mustClose(t, c[0]), mustClose(t, c[1])); len(got) != 0 {
			t.Error(c, showParts(got))
		}
	}
}

func TestCosetsAreTheGroupTogether(t *testing.T) {
	var d dice
	for _, s := range spaces() {
		g := mustClose(t, s.gens...)
		subs := [][]impl.Op{g, {stillOp()}}
		for range 12 {
			gens := []impl.Op{g[d.between(0, int64(len(g)-1))], g[d.between(0, int64(len(g)-1))]}
			sub, _ := closeByRule(gens[:d.between(1, 2)])
			subs = append(subs, sub)
		}
		for _, h := range subs {
			parts := impl.Cosets(g, h)
			if !slices.EqualFunc(parts, cosetsByRule(g, h), sameOps) {
				t.Fatal(s.name, showAll(h), showParts(parts))
			}
			if len(parts)*len(h) != len(g) || !sameOps(sortedByRule(slices.Concat(parts...)), g) {
				t.Fatal(s.name, showAll(h), showParts(parts))
			}
			for _, part := range parts {
				if len(part) != len(h) {
					t.Fatal(s.name, showAll(h), showAll(part))
				}
			}
		}
	}
}

func TestTableByHand(t *testing.T) {
	for _, c := range []struct {
		gens string
		want []int64
	}{
		{"x,y,z", []int64{0}},
		{"-x,-y,-z", []int64{1, 0, 0, 1}},
		{"x+1/2,y,z", []int64{0, 1, 1, 0}},
		{"x+1/3,y,z", []int64{0, 1, 2, 1, 2, 0, 2, 0, 1}},
		{"-y,x,z+1/4", []int64{3, 2, 1, 0, 2, 0, 3, 1, 1, 3, 0, 2, 0, 1, 2, 3}},
		// The order is zyx, zxy, yzx, yxz, xzy, xyz; zyx behind zxy is yxz.
		{"z,x,y ; y,x,z", []int64{
			5, 3, 4, 1, 2, 0,
			4, 2, 5, 0, 3, 1,
			3, 5, 1, 4, 0, 2,
			2, 4, 0, 5, 1, 3,
			1, 0, 3, 2, 5, 4,
			0, 1, 2, 3, 4, 5,
		}},
	} {
		g := mustClose(t, strings.Split(c.gens, " ; ")...)
		if got := impl.Table(g); !slices.Equal(got, c.want) {
			t.Error(c, got)
		}
	}
}

func TestTableByRule(t *testing.T) {
	for _, s := range spaces() {
		g := mustClose(t, s.gens...)
		table := impl.Table(g)
		if len(table) != len(g)*len(g) {
			t.Fatal(s.name, len(table))
		}
		for i, a := range g {
			for k, b := range g {
				at := table[i*len(g)+k]
				if at < 0 || at >= int64(len(g)) || !sameOp(g[at], productByRule(a, b)) {
					t.Fatal(s.name, i, k, at)
				}
			}
		}
	}
}

func TestGroupArgumentsStay(t *testing.T) {
	g, guardG := withRoom(mustClose(t, "-y,x,z+1/4", "x,y,-z"))
	h, guardH := withRoom(mustClose(t, "-x,-y,z+1/2"))
	gens, guardGens := withRoom(mustOps(t, "-y,x,z+1/4", "x,y,-z", "x,y,z"))
	by, guardBy := withRoom(mustOps(t, "z+1/8,x,y"))
	wrong, guardWrong := withRoom([]impl.Op{g[3], g[0], g[1], {}, {M: []int64{1}, T: []int64{2, 3}}})
	closed, ok := impl.Close(gens)
	turned, okTurned := impl.Turned(g, by[0])
	if !impl.GroupOk(g) || !ok || !okTurned || !impl.SameKind(g, g) || len(impl.Kinds(g)) == 0 {
		t.Fatal(showAll(closed), ok, showAll(turned), okTurned)
	}
	answers := [][]impl.Op{closed, turned, impl.PointGroup(g), impl.Frames()}
	answers = append(answers, impl.Cosets(g, h)...)
	if len(answers) != 4+len(g)/len(h) {
		t.Fatal(len(answers))
	}
	for _, list := range answers {
		spoil(list)
	}
	table := impl.Table(g)
	for i := range table {
		table[i] = -9
	}
	impl.GroupOk(wrong)
	impl.Close(wrong)
	impl.PointGroup(wrong)
	impl.Kinds(wrong)
	impl.Turned(wrong, by[0])
	impl.SameKind(wrong, g)
	impl.Cosets(wrong, wrong)
	impl.Table(wrong)
	for i, guard := range []func() bool{guardG, guardH, guardGens, guardBy, guardWrong} {
		if !guard() {
			t.Error("changed:", i)
		}
	}
}

func TestGroupAnswersAreNewMemory(t *testing.T) {
	g, h := mustClose(t, "-y,x,z+1/4", "x,y,-z"), mustClose(t, "-x,-y,z+1/2")
	one := []impl.Op{stillOp()}
	for name, ask := range map[string]func() [][]impl.Op{
		"Close":         func() [][]impl.Op { o, _ := impl.Close(g[:3]); return [][]impl.Op{o} },
		"Close of none": func() [][]impl.Op { o, _ := impl.Close(nil); return [][]impl.Op{o} },
		"PointGroup":    func() [][]impl.Op { return [][]impl.Op{impl.PointGroup(g)} },
		"Turned":        func() [][]impl.Op { o, _ := impl.Turned(g, stillOp()); return [][]impl.Op{o} },
		"Frames":        func() [][]impl.Op { return [][]impl.Op{impl.Frames()} },
		"Cosets":        func() [][]impl.Op { return impl.Cosets(g, h) },
		"Cosets of one": func() [][]impl.Op { return impl.Cosets(g, one) },
		"Cosets of all": func() [][]impl.Op { return impl.Cosets(g, g) },
	} {
		first, second := ask(), ask()
		want := [][]impl.Op{}
		for _, part := range first {
			want = append(want, cloneOps(part))
		}
		for _, part := range first {
			spoil(part)
		}
		if len(want) == 0 || !slices.EqualFunc(second, want, sameOps) || !slices.EqualFunc(ask(), want, sameOps) {
			t.Error(name, showParts(second))
		}
		for i := range second {
			spoil(second[i])
			if !slices.EqualFunc(second[i+1:], want[i+1:], sameOps) {
				t.Error(name, "two parts share memory")
			}
		}
		if !shareNothing(listsOf(slices.Concat(ask()...)...)) {
			t.Error(name, "two lists share memory")
		}
	}
	if !impl.SameKind(g, g) || !impl.SameKind(mustClose(t, "-x,y,-z"), mustClose(t, "-x,-y,z")) {
		t.Error("SameKind hangs on what was done with Frames")
	}
}

func TestTableAndKindsAreNewMemory(t *testing.T) {
	g := mustClose(t, "-y,x,z+1/4", "x,y,-z")
	table, kinds := impl.Table(g), impl.Kinds(g)
	wantTable, wantKinds := slices.Clone(table), slices.Clone(kinds)
	for i := range table {
		table[i] = -9
	}
	for i := range kinds {
		kinds[i].Count = -9
	}
	if !slices.Equal(impl.Table(g), wantTable) || !slices.Equal(impl.Kinds(g), wantKinds) {
		t.Error(impl.Table(g), impl.Kinds(g))
	}
}

// wildOp: an Op of any numbers, or a right one that may be spoilt in one.
func (d *dice) wildOp() impl.Op {
	o := d.frame()
	switch d.between(0, 3) {
	case 0:
		o.M = d.numbers(int(d.between(0, 10)), 2)
	case 1:
		o.T[d.between(0, 2)] = int64(d.bits()) >> d.between(0, 63)
	case 2:
		o.M[d.between(0, 8)] = []int64{math.MinInt64, math.MaxInt64, 1 << 32, 2, -2, 0}[d.between(0, 5)]
	}
	return o
}

func TestGroupAnswersAtEveryArgument(t *testing.T) {
	var d dice
	groups := 0
	for range 5000 {
		g, h := []impl.Op{}, []impl.Op{}
		for range d.between(0, 5) {
			g, h = append(g, d.wildOp()), append(h, d.wildOp())
		}
		if d.between(0, 3) == 0 {
			g, _ = impl.Close(g[:min(len(g), 1)])
		}
		ok := impl.GroupOk(g)
		if ok != isGroupByRule(g) {
			t.Fatal(g, ok)
		}
		if ok {
			groups++
		}
		by := d.wildOp()
		turned, okTurned := impl.Turned(g, by)
		if okTurned != (len(turned) > 0) || okTurned && !(ok && rightByRule(by)) {
			t.Fatal(g, by, turned)
		}
		if (len(impl.PointGroup(g)) > 0) != ok || (len(impl.Kinds(g)) > 0) != ok || len(impl.Table(g)) != 0 != ok {
			t.Fatal(g)
		}
		if impl.SameKind(g, g) != ok || (len(impl.Cosets(g, g)) == 1) != ok || len(impl.Cosets(g, h)) > 0 && !ok {
			t.Fatal(g, h)
		}
	}
	if groups < 100 {
		t.Error("too few were groups:", groups)
	}
	many := slices.Repeat([]impl.Op{stillOp()}, 100000)
	if impl.GroupOk(many) || impl.SameKind(many, many) || len(impl.Cosets(many, many)) != 0 || len(impl.Table(many)) != 0 {
		t.Error("many")
	}
}
