package impl

import (
	"cmp"
	"math"
)

const MaxList = 4096

const laneCount = 4

type Cx struct {
	Re float64
	Im float64
}

type Cs struct {
	Re float32
	Im float32
}

func CxMul(a Cx, b Cx) Cx { return cxOf(mulWide(wideOf(a), wideOf(b))) }

func CxConj(a Cx) Cx { return cxOf(conjWide(wideOf(a))) }

func CxDiv(a Cx, b Cx) Cx { return cxOf(divWide(wideOf(a), wideOf(b))) }

func CxOrder(a Cx, b Cx) int64 {
	re := cmp.Compare(floatRank(a.Re), floatRank(b.Re))
	im := cmp.Compare(floatRank(a.Im), floatRank(b.Im))
	return int64(cmp.Or(re, im))
}

func CxLanes(list []Cx) Cx {
	if len(list) > MaxList {
		return Cx{}
	}
	var lanes [laneCount]complex128
	for i := range len(list) {
		lanes[i%laneCount] += wideOf(list[i])
	}
	return cxOf(joinLanes(lanes))
}

func Narrow(a Cx) Cs { return csOf(complex64(wideOf(a))) }

func Widen(a Cs) Cx { return cxOf(complex128(slimOf(a))) }

func NarrowRow(row []Cx, by Cs) []Cs {
	if len(row) > MaxList {
		return []Cs{}
	}
	out := make([]Cs, len(row))
	for i := range len(row) {
		out[i] = csOf(mulSlim(slimOf(Narrow(row[i])), slimOf(by)))
	}
	return out
}

func joinLanes(lanes [laneCount]complex128) complex128 {
	return (lanes[0] + lanes[1]) + (lanes[2] + lanes[3])
}

func wideOf(a Cx) complex128 { return complex(a.Re, a.Im) }

func cxOf(c complex128) Cx { return Cx{Re: real(c), Im: imag(c)} }

func slimOf(a Cs) complex64 { return complex(a.Re, a.Im) }

func csOf(c complex64) Cs { return Cs{Re: real(c), Im: imag(c)} }

// mulWide spells the product out, as the compiler may join a product and a
// sum into one rounding unless a conversion stands around the product.
func mulWide(a complex128, b complex128) complex128 {
	re := float64(real(a)*real(b)) - float64(imag(a)*imag(b))
	im := float64(real(a)*imag(b)) + float64(imag(a)*real(b))
	return complex(re, im)
}

// mulSlim spells the product out, as the language reckons a product of two
// complex64 in float64 and rounds only at its end.
func mulSlim(a complex64, b complex64) complex64 {
	re := float32(real(a)*real(b)) - float32(imag(a)*imag(b))
	im := float32(real(a)*imag(b)) + float32(imag(a)*real(b))
	return complex(re, im)
}

func conjWide(c complex128) complex128 { return complex(+real(c), -imag(c)) }

// divWide does without the language's own quotient, which mends infinities
// and noughts by rules of its own.
func divWide(a complex128, b complex128) complex128 {
	p := mulWide(a, conjWide(b))
	q := float64(real(b)*real(b)) + float64(imag(b)*imag(b))
	return complex(real(p)/q, imag(p)/q)
}

// floatRank turns the order of floats into that of whole numbers: bits rise
// with a float above 0 and fall with one below it, and minus nought needs a
// rank of its own next below nought's.
func floatRank(x float64) int64 {
	if math.IsNaN(x) {
		return math.MaxInt64
	}
	size := int64(math.Float64bits(x) & math.MaxInt64)
	if math.Signbit(x) {
		return -1 - size
	}
	return size
}
