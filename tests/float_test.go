package tests

import (
	"math"
	"math/big"

	"loop.example/g00055/impl"
)

// sameFloat: equal with equal signs, a nought's too, or both NaN.
func sameFloat(x, y float64) bool {
	if math.IsNaN(x) || math.IsNaN(y) {
		return math.IsNaN(x) && math.IsNaN(y)
	}
	return math.Float64bits(x) == math.Float64bits(y)
}

func sameSlim(x, y float32) bool { return sameFloat(float64(x), float64(y)) }

func sameCx(a, b impl.Cx) bool { return sameFloat(a.Re, b.Re) && sameFloat(a.Im, b.Im) }

func sameCs(a, b impl.Cs) bool { return sameSlim(a.Re, b.Re) && sameSlim(a.Im, b.Im) }

// roundedOnce does one operation without any rounding, and then rounds what
// comes to the width by itself; so nothing can be joined to it.
func roundedOnce(op byte, x, y float64, width int) float64 {
	if !ordinary(x) || !ordinary(y) {
		return special(op, x, y)
	}
	const exact = 4400
	a := new(big.Float).SetPrec(exact).SetFloat64(x)
	b := new(big.Float).SetPrec(exact).SetFloat64(y)
	z := new(big.Float).SetPrec(exact)
	switch op {
	case '+':
		z.Add(a, b)
	case '-':
		z.Sub(a, b)
	case '*':
		z.Mul(a, b)
	default:
		z.Quo(a, b)
	}
	if width == 32 {
		r, _ := z.Float32()
		return float64(r)
	}
	r, _ := z.Float64()
	return r
}

func ordinary(x float64) bool { return x != 0 && !math.IsNaN(x) && !math.IsInf(x, 0) }

// special: with a nought, an infinity or NaN no operation rounds.
func special(op byte, x, y float64) float64 {
	switch op {
	case '+':
		return x + y
	case '-':
		return x - y
	case '*':
		return x * y
	}
	return x / y
}

func mulByRule(a, b impl.Cx, width int) impl.Cx {
	do := func(op byte, x, y float64) float64 { return roundedOnce(op, x, y, width) }
	return impl.Cx{
		Re: do('-', do('*', a.Re, b.Re), do('*', a.Im, b.Im)),
		Im: do('+', do('*', a.Re, b.Im), do('*', a.Im, b.Re)),
	}
}

func divByRule(a, b impl.Cx) impl.Cx {
	do := func(op byte, x, y float64) float64 { return roundedOnce(op, x, y, 64) }
	p := mulByRule(a, impl.Cx{Re: b.Re, Im: math.Copysign(b.Im, flipped(b.Im))}, 64)
	q := do('+', do('*', b.Re, b.Re), do('*', b.Im, b.Im))
	return impl.Cx{Re: do('/', p.Re, q), Im: do('/', p.Im, q)}
}

// flipped is 1 with the sign that x has not.
func flipped(x float64) float64 {
	if math.Signbit(x) {
		return 1
	}
	return -1
}

// dice is a row of bits that is the same in every run.
type dice uint64

func (d *dice) bits() uint64 {
	*d += 0x9e3779b97f4a7c15
	z := uint64(*d)
	z = (z ^ z>>30) * 0xbf58476d1ce4e5b9
	z = (z ^ z>>27) * 0x94d049bb133111eb
	return z ^ z>>31
}

// near: a float of some 2 to the power 20 at the most either way, all its bits in use.
func (d *dice) near() float64 {
	b := d.bits()
	exponent := uint64(1023) - 20 + d.bits()%41
	return math.Float64frombits(b&(1<<63|1<<52-1) | exponent<<52)
}

func (d *dice) nearCx() impl.Cx { return impl.Cx{Re: d.near(), Im: d.near()} }

// any: all floats there are, the strange ones too.
func (d *dice) any() float64 { return math.Float64frombits(d.bits()) }

func (d *dice) anyCx() impl.Cx { return impl.Cx{Re: d.any(), Im: d.any()} }

// edgeFloats are the floats at which operations or widths turn over.
func edgeFloats() []float64 {
	above := []float64{
		0, math.SmallestNonzeroFloat64, 1e-300, 0x1p-1022, 0x1p-150, 0x1p-149,
		0.1, 1, 1 + 0x1p-24, 1 + 0x1p-52, 3, 16777217, math.MaxFloat32,
		0x1.ffffffp127, 1e160, math.MaxFloat64, math.Inf(1),
	}
	list := []float64{math.NaN()}
	for _, x := range above {
		list = append(list, x, math.Copysign(x, -1))
	}
	return list
}

func edgeNumbers() []impl.Cx {
	var list []impl.Cx
	for _, re := range edgeFloats() {
		for _, im := range edgeFloats() {
			list = append(list, impl.Cx{Re: re, Im: im})
		}
	}
	return list
}
