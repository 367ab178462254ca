package tests

import (
	"fmt"
	"go/ast"
	"go/parser"
	"go/token"
	"math"
	"os"
	"reflect"
	"slices"
	"strings"
	"testing"
	"unsafe"

	"loop.example/g00055/impl"
)

// asked: a function, and arguments of which it is likely to tell something.
type asked struct {
	function  any
	arguments func(d *dice) []any
}

// groupDrawn: one of few Ops, nearly always.
func (d *dice) groupDrawn() []impl.Op {
	gens := [][]string{nil, {"-x,-y,-z"}, {"-x,y+1/2,-z"}, {"-y,x,z+1/4"}, {"-y,x-y,z", "-x,-y,-z"}, {"-x,y,z", "x,-y,z", "x,y,-z"}, {"x+1/2,y+1/2,z"}, {"-y,x,z", "z,x,y"}}
	list := []impl.Op{}
	for _, gen := range gens[d.between(0, int64(len(gens)-1))] {
		o, _ := impl.OpRead(gen)
		list = append(list, o)
	}
	g, _ := impl.Close(list)
	return g
}

// wholeOfChapters1To8 names each function of these chapters with its arguments.
func wholeOfChapters1To8() map[string]asked {
	matrix := func(d *dice) []any { return []any{d.lattice(9)} }
	matrices := func(d *dice) []any {
		m := d.lattice(5)
		return []any{m, d.otherBasis(m, 50)}
	}
	group := func(d *dice) []any { return []any{d.groupDrawn()} }
	groupAndPoint := func(d *dice) []any { return []any{d.groupDrawn(), d.special()} }
	groupAndHkl := func(d *dice) []any { return []any{d.groupDrawn(), d.specialHkl(4)} }
	oneOp := func(d *dice) []any { return []any{d.frame()} }
	twoOps := func(d *dice) []any { return []any{d.frame(), d.frame()} }
	oneCx := func(d *dice) []any { return []any{d.nearCx()} }
	twoCxs := func(d *dice) []any { return []any{d.nearCx(), d.anyCx()} }
	oneCyc := func(d *dice) []any { return []any{d.cyc(1000)} }
	twoCycs := func(d *dice) []any { return []any{d.cyc(1000), d.cyc(1000)} }
	form := func(d *dice) []any { return []any{d.form(20)} }
	formAndMost := func(d *dice) []any { return []any{d.form(20), d.between(1, 60)} }
	atoms := func(d *dice) []any { return []any{d.atoms(int(d.between(0, 6)), 9)} }
	atomsAndHkl := func(d *dice) []any { return []any{d.atoms(int(d.between(1, 6)), 9), d.hkl(5)} }
	chart := func(d *dice) []any { return []any{d.drawn(smallSides()[d.between(0, 4)], 9)} }
	return map[string]asked{
		"CxMul": {impl.CxMul, twoCxs}, "CxConj": {impl.CxConj, oneCx}, "CxDiv": {impl.CxDiv, twoCxs}, "CxOrder": {impl.CxOrder, twoCxs},
		"CxLanes": {impl.CxLanes, func(d *dice) []any { return []any{[]impl.Cx{d.nearCx(), d.nearCx(), d.nearCx()}} }},
		"Narrow":  {impl.Narrow, oneCx},
		"Widen":   {impl.Widen, func(d *dice) []any { return []any{impl.Narrow(d.nearCx())} }},
		"NarrowRow": {impl.NarrowRow, func(d *dice) []any {
			return []any{[]impl.Cx{d.nearCx(), d.nearCx(), d.nearCx()}, impl.Narrow(d.nearCx())}
		}},
		"Det": {impl.Det, matrix}, "Hermite": {impl.Hermite, matrix}, "SameLattice": {impl.SameLattice, matrices},
		"Contains": {impl.Contains, func(d *dice) []any { return []any{d.lattice(2), d.between(-9, 9), d.between(-9, 9), d.between(-9, 9)} }},
		"Smith":    {impl.Smith, matrix}, "Sublattice": {impl.Sublattice, matrices}, "FormOk": {impl.FormOk, form}, "Reduce": {impl.Reduce, form}, "Shorts": {impl.Shorts, formAndMost},
		"OpOk": {impl.OpOk, oneOp}, "OpMul": {impl.OpMul, twoOps}, "OpBack": {impl.OpBack, oneOp}, "OpOrder": {impl.OpOrder, oneOp}, "OpCompare": {impl.OpCompare, twoOps}, "OpShow": {impl.OpShow, oneOp},
		"OpRead":  {impl.OpRead, func(d *dice) []any { return []any{d.spoilt(d.houseOp())} }},
		"GroupOk": {impl.GroupOk, group}, "Close": {impl.Close, group}, "PointGroup": {impl.PointGroup, group}, "Kinds": {impl.Kinds, group},
		"Turned":   {impl.Turned, func(d *dice) []any { return []any{d.groupDrawn(), d.frame()} }},
		"SameKind": {impl.SameKind, func(d *dice) []any { return []any{d.groupDrawn(), d.groupDrawn()} }},
		"Frames":   {impl.Frames, func(*dice) []any { return nil }},
		"Cosets": {impl.Cosets, func(d *dice) []any {
			g := d.groupDrawn()
			return []any{g, impl.Stabiliser(g, d.special())}
		}},
		"Table": {impl.Table, group},
		"Act":   {impl.Act, func(d *dice) []any { return []any{d.frame(), d.point()} }},
		"Orbit": {impl.Orbit, groupAndPoint}, "Stabiliser": {impl.Stabiliser, groupAndPoint}, "Asymmetric": {impl.Asymmetric, groupAndPoint}, "Sites": {impl.Sites, group},
		"Extinct": {impl.Extinct, groupAndHkl}, "Family": {impl.Family, groupAndHkl},
		"Unique": {impl.Unique, func(d *dice) []any { return []any{d.groupDrawn(), []impl.Hkl{d.hkl(3), d.hkl(3), d.hkl(50)}} }},
		"CycOk":  {impl.CycOk, oneCyc}, "CycAdd": {impl.CycAdd, twoCycs}, "CycMul": {impl.CycMul, twoCycs}, "CycConj": {impl.CycConj, oneCyc},
		"CycRoot": {impl.CycRoot, func(d *dice) []any { return []any{d.wildNumber()} }},
		"CycReal": {impl.CycReal, func(d *dice) []any {
			a := d.cyc(1000)
			sum, _ := impl.CycAdd(a, impl.CycConj(a))
			return []any{sum}
		}},
		"RealSign":   {impl.RealSign, func(d *dice) []any { return []any{d.between(-99, 99), d.between(-99, 99)} }},
		"CycFloat":   {impl.CycFloat, oneCyc},
		"Characters": {impl.Characters, func(d *dice) []any { return []any{orders()[d.between(0, 5)]} }},
		"Reduced": {impl.Reduced, func(d *dice) []any {
			n := orders()[d.between(0, 5)]
			traces, _ := tracesOf(n, d.times(n, 5))
			return []any{n, traces}
		}},
		"AtomsOk": {impl.AtomsOk, atoms}, "Exact": {impl.Exact, atomsAndHkl}, "Float": {impl.Float, atomsAndHkl}, "Power": {impl.Power, atomsAndHkl},
		"Spread":  {impl.Spread, func(d *dice) []any { return []any{d.groupDrawn(), d.atoms(int(d.between(0, 4)), 9)} }},
		"Friedel": {impl.Friedel, atomsAndHkl}, "Rings": {impl.Rings, formAndMost}, "Signed": {impl.Signed, atoms},
		"MapOk": {impl.MapOk, chart}, "Forward": {impl.Forward, chart}, "Backward": {impl.Backward, chart},
		"Convolve": {impl.Convolve, func(d *dice) []any {
			n := smallSides()[d.between(0, 4)]
			return []any{d.drawn(n, 9), d.drawn(n, 9)}
		}},
		"Patterson": {impl.Patterson, chart},
		"Paint":     {impl.Paint, func(d *dice) []any { return []any{d.atomsOn(4, 5), d.between(1, 6)} }},
		"Average":   {impl.Average, func(d *dice) []any { return []any{d.drawn(4, 9), d.groupDrawn()} }},
		"Peaks":     {impl.Peaks, chart},
	}
}

// wholeOfChapters9To17 names each function of these chapters with its arguments.
func wholeOfChapters9To17() map[string]asked {
	row := func(d *dice) []any { return []any{impl.CutRow(d.between(0, 50), d.between(0, 30))} }
	rowAndNumber := func(d *dice) []any { return []any{impl.CutRow(d.between(0, 50), d.between(0, 30)), d.between(0, 4)} }
	surface := func(d *dice) []any { return []any{d.heights(int(d.between(3, 8)), 9), d.coins(5)} }
	net := func(d *dice) []any { return []any{d.net(d.between(1, 5), d.between(1, 5), 9)} }
	netAnd := func(count int) func(d *dice) []any {
		return func(d *dice) []any {
			out := []any{d.net(d.between(2, 5), d.between(2, 5), 9)}
			for range count {
				out = append(out, d.between(0, 4))
			}
			return out
		}
	}
	shapeAnd := func(count int, low, high int64) func(d *dice) []any {
		return func(d *dice) []any {
			out := []any{[]impl.Facet(d.drawnShape(int(d.between(3, 8)), 5))}
			for range count {
				out = append(out, d.between(low, high))
			}
			return out
		}
	}
	frame := func(d *dice) []any { return []any{d.frameOf(d.between(1, 6), d.between(1, 6), 400)} }
	spots := func(d *dice) []any { return []any{d.strays(int(d.between(0, 8)), 20)} }
	exposures := func(d *dice) []any { return []any{d.exposures(int(d.between(1, 5)), 8, 3)} }
	exposuresAndList := func(tell func(exposures [][]int64) []int64) func(d *dice) []any {
		return func(d *dice) []any {
			list := d.exposures(int(d.between(1, 5)), 8, 3)
			return []any{list, tell(list)}
		}
	}
	groupAndObs := func(d *dice) []any {
		g := d.groupDrawn()
		return []any{g, d.obsUnder(g, 3, 9, 50)}
	}
	signs := func(d *dice) []any { return []any{d.signsOf(9, 2)} }
	tapeAnd := func(more ...int64) func(d *dice) []any {
		return func(d *dice) []any {
			out := []any{d.tape(3, int(d.between(1, 8)), 3, 9), d.numbers(3, 9)}
			for _, most := range more {
				out = append(out, d.between(0, most))
			}
			return out
		}
	}
	data := func(d *dice) []any { return []any{d.block(2, 2, 3, 3)} }
	text := func(d *dice) []any { return []any{d.anyFile(d.block(2, 1, 2, 2))} }
	return map[string]asked{
		"Inflate": {impl.Inflate, rowAndNumber}, "Deflate": {impl.Deflate, row},
		"Golden":  {impl.Golden, func(d *dice) []any { return []any{d.between(0, 1000)} }},
		"CutRow":  {impl.CutRow, func(d *dice) []any { return []any{d.between(0, 99), d.between(0, 30)} }},
		"Factors": {impl.Factors, rowAndNumber}, "Balanced": {impl.Balanced, row}, "Deposit": {impl.Deposit, surface}, "Etch": {impl.Etch, surface},
		"Steps": {impl.Steps, func(d *dice) []any { return surface(d)[:1] }},
		"NetOk": {impl.NetOk, net}, "Burgers": {impl.Burgers, netAnd(2)}, "Around": {impl.Around, netAnd(4)}, "Slip": {impl.Slip, netAnd(3)},
		"Shifted": {impl.Shifted, func(d *dice) []any {
			w, h := d.between(1, 4), d.between(1, 4)
			return []any{d.net(w, h, 9), d.numbers(int(w*h), 9)}
		}},
		"Cores": {impl.Cores, net}, "ShapeOk": {impl.ShapeOk, shapeAnd(0, 0, 0)}, "Shows": {impl.Shows, shapeAnd(0, 0, 0)}, "Corners": {impl.Corners, shapeAnd(0, 0, 0)},
		"Reason": {impl.Reason, shapeAnd(1, 0, 7)}, "Covered": {impl.Covered, func(d *dice) []any {
			facets, i := []impl.Facet(d.drawnShape(8, 5)), d.between(0, 7)
			j, k := impl.Reason(facets, i)
			return []any{facets, i, j, k}
		}}, "Support": {impl.Support, shapeAnd(2, -5, 5)}, "FrameOk": {impl.FrameOk, frame},
		"AddFrames": {impl.AddFrames, func(d *dice) []any { return []any{[]impl.Frame{d.frameOf(3, 2, 400), d.frameOf(3, 2, 400)}} }},
		"Masked":    {impl.Masked, func(d *dice) []any { return []any{d.frameOf(3, 3, 9), d.wildList(2, 0, 8)} }},
		"Spots":     {impl.Spots, func(d *dice) []any { return []any{d.frameOf(4, 4, 9), d.between(0, 9)} }},
		"Integrate": {impl.Integrate, func(d *dice) []any {
			return []any{d.frameOf(4, 4, 9), d.between(0, 3), d.between(0, 3), d.between(0, 2)}
		}},
		"Squeeze":   {impl.Squeeze, frame},
		"Unsqueeze": {impl.Unsqueeze, func(d *dice) []any { return []any{impl.Squeeze(d.frameOf(4, 3, 900))} }},
		"Indexed":   {impl.Indexed, func(d *dice) []any { return []any{d.strays(5, 20), d.basis(5)} }},
		"FindBasis": {impl.FindBasis, spots}, "Votes": {impl.Votes, spots}, "StrategyOk": {impl.StrategyOk, exposuresAndList(impl.Strategy)}, "Strategy": {impl.Strategy, exposures},
		"WitnessOk": {impl.WitnessOk, exposuresAndList(impl.Witness)}, "Witness": {impl.Witness, exposures}, "Merge": {impl.Merge, groupAndObs}, "Lost": {impl.Lost, groupAndObs},
		"Figure":   {impl.Figure, func(d *dice) []any { return []any{d.mergedList(4, 99, 20)} }},
		"Outliers": {impl.Outliers, func(d *dice) []any { return []any{d.intensities(6, 99), d.between(0, 40)} }},
		"Complete": {impl.Complete, func(d *dice) []any { return append(groupAndObs(d), []impl.Hkl{d.hkl(3), d.specialHkl(3)}) }},
		"Certain": {impl.Certain, func(d *dice) []any {
			return []any{d.between(1, 60), d.between(-20, 20), d.between(-9, 9), d.between(-20, 20), d.between(-9, 9)}
		}},
		"Triplet": {impl.Triplet, signs},
		"Deduce":  {impl.Deduce, func(d *dice) []any { return []any{d.signsOf(20, 1), d.hkl(2), int64(1)} }},
		"TapeOk":  {impl.TapeOk, func(d *dice) []any { return []any{d.tape(3, int(d.between(0, 8)), 3, 9), d.between(2, 4)} }},
		"Value":   {impl.Value, tapeAnd()}, "SlopeForward": {impl.SlopeForward, tapeAnd(2)}, "SlopesBack": {impl.SlopesBack, tapeAnd()}, "Descent": {impl.Descent, tapeAnd(5)},
		"DataOk": {impl.DataOk, data}, "ShowData": {impl.ShowData, data}, "ReadData": {impl.ReadData, text},
		"Column": {impl.Column, func(d *dice) []any {
			block := d.block(2, 2, 3, 3)
			return []any{block, block.Items[d.between(0, int64(len(block.Items)-1))].Name}
		}},
		"Mend": {impl.Mend, text}, "LabOk": {impl.LabOk, func(d *dice) []any { return []any{d.drawnLab(4, 5, 5)} }},
		"LabDo":    {impl.LabDo, func(d *dice) []any { return []any{d.drawnLab(4, 5, 5), d.deed(6, 6, 9)} }},
		"LabPlay":  {impl.LabPlay, func(d *dice) []any { return []any{d.deeds(int(d.between(1, 30)), 3, 4, 20)} }},
		"HouseRun": {impl.HouseRun, func(d *dice) []any { return []any{d.script(int(d.between(1, 12)), 10)} }},
	}
}

// exportedFunctions: the names of all functions that the package hands out.
func exportedFunctions(t *testing.T) []string {
	t.Helper()
	entries, err := os.ReadDir("../impl")
	if err != nil {
		t.Fatal(err)
	}
	names := []string{}
	for _, entry := range entries {
		file, err := parser.ParseFile(token.NewFileSet(), "../impl/"+entry.Name(), nil, 0)
		if err != nil {
			t.Fatal(err)
		}
		for _, decl := range file.Decls {
			if f, ok := decl.(*ast.FuncDecl); ok && f.Recv == nil && f.Name.IsExported() {
				names = append(names, f.Name.Name)
			}
		}
	}
	slices.Sort(names)
	return names
}

// written tells a value as text, bit by bit; with the room behind lists if it is
// asked for. An empty list and none are told alike.
func written(out *strings.Builder, v reflect.Value, room bool) {
	switch v.Kind() {
	case reflect.Slice:
		fmt.Fprintf(out, "[%d:", v.Len())
		end := v.Len()
		if room {
			end = v.Cap()
		}
		for i := range end {
			written(out, v.Slice(0, end).Index(i), room)
		}
		out.WriteString("]")
	case reflect.Struct:
		out.WriteString("{")
		for i := range v.NumField() {
			written(out, v.Field(i), room)
		}
		out.WriteString("}")
	case reflect.Float32, reflect.Float64:
		if f := v.Float(); math.IsNaN(f) {
			out.WriteString("NaN ")
		} else {
			fmt.Fprintf(out, "%x ", math.Float64bits(f))
		}
	case reflect.String:
		fmt.Fprintf(out, "%q ", v.String())
	default:
		fmt.Fprintf(out, "%v ", v)
	}
}

func writtenAll(list []reflect.Value, room bool) string {
	var out strings.Builder
	for _, v := range list {
		written(&out, v, room)
	}
	return out.String()
}

// stretch: bytes of memory that a list has, its room too, or a text.
type stretch struct {
	from, to uintptr
	isText   bool
}

func stretchesOf(v reflect.Value) []stretch {
	out := []stretch{}
	switch v.Kind() {
	case reflect.Slice:
		if size := uintptr(v.Cap()) * v.Type().Elem().Size(); size > 0 {
			out = append(out, stretch{v.Pointer(), v.Pointer() + size, false})
		}
		for i := range v.Len() {
			out = append(out, stretchesOf(v.Index(i))...)
		}
	case reflect.Struct:
		for i := range v.NumField() {
			out = append(out, stretchesOf(v.Field(i))...)
		}
	case reflect.String:
		if s := v.String(); s != "" {
			from := uintptr(unsafe.Pointer(unsafe.StringData(s)))
			out = append(out, stretch{from, from + uintptr(len(s)), true})
		}
	}
	return out
}

func allStretches(list []reflect.Value) []stretch {
	out := []stretch{}
	for _, v := range list {
		out = append(out, stretchesOf(v)...)
	}
	return out
}

func (s stretch) meets(other stretch) bool { return s.from < other.to && other.from < s.to }

// laid is the same value in memory of its own, with room behind each list in
// which wild values lie.
func (d *dice) laid(v reflect.Value) reflect.Value {
	out := reflect.New(v.Type()).Elem()
	switch v.Kind() {
	case reflect.Slice:
		if v.IsNil() {
			return out
		}
		spare := int(d.between(0, 2))
		room := reflect.MakeSlice(v.Type(), v.Len()+spare, v.Len()+spare)
		for i := range room.Len() {
			if i < v.Len() {
				room.Index(i).Set(d.laid(v.Index(i)))
			} else {
				room.Index(i).Set(d.wild(v.Type().Elem(), 2))
			}
		}
		out.Set(room.Slice(0, v.Len()))
	case reflect.Struct:
		for i := range v.NumField() {
			out.Field(i).Set(d.laid(v.Field(i)))
		}
	case reflect.String:
		out.SetString(strings.Clone(v.String()))
	default:
		out.Set(v)
	}
	return out
}

// wild: any value of a type, deep lists of few elements.
func (d *dice) wild(kind reflect.Type, deep int) reflect.Value {
	out := reflect.New(kind).Elem()
	switch kind.Kind() {
	case reflect.Slice:
		if deep > 0 && d.between(0, 4) > 0 {
			count := int(d.between(0, 12))
			out.Set(reflect.MakeSlice(kind, count, count))
			for i := range count {
				out.Index(i).Set(d.wild(kind.Elem(), deep-1))
			}
		}
	case reflect.Struct:
		for i := range kind.NumField() {
			out.Field(i).Set(d.wild(kind.Field(i).Type, deep))
		}
	case reflect.String:
		out.SetString(d.anyBytes(d.between(0, 20)))
	case reflect.Float32, reflect.Float64:
		out.SetFloat(d.any())
	case reflect.Uint8:
		out.SetUint(d.bits() >> 56)
	default:
		edges := []int64{0, 1, -1, 2, 12, 24, 100, 1000, math.MaxInt64, math.MinInt64, 1 << 32, d.wildNumber(), d.between(-9, 9)}
		out.SetInt(edges[d.between(0, int64(len(edges)-1))])
	}
	return out
}

// spoil puts something wild in one place of a value that can be written.
func (d *dice) spoil(v reflect.Value) {
	switch {
	case v.Kind() == reflect.Slice && v.Len() > 0 && d.between(0, 5) > 0:
		switch at := int(d.between(0, int64(v.Len()-1))); d.between(0, 7) {
		case 0:
			v.Set(v.Slice(0, at))
		case 1:
			v.Set(reflect.AppendSlice(v, v))
		default:
			d.spoil(v.Index(at))
		}
	case v.Kind() == reflect.Struct && d.between(0, 9) > 0:
		d.spoil(v.Field(int(d.between(0, int64(v.NumField()-1)))))
	default:
		v.Set(d.wild(v.Type(), 2))
	}
}

// called answers nothing and what was said if the function panics.
func called(function any, arguments []reflect.Value) (out []reflect.Value, said any) {
	defer func() { said = recover() }()
	return reflect.ValueOf(function).Call(arguments), nil
}

// overwrite writes zero values over all memory of an answer's lists.
func overwrite(v reflect.Value) {
	switch v.Kind() {
	case reflect.Slice:
		all := v.Slice(0, v.Cap())
		for i := range all.Len() {
			overwrite(all.Index(i))
			all.Index(i).SetZero()
		}
	case reflect.Struct:
		for i := range v.NumField() {
			overwrite(v.Field(i))
		}
	}
}
