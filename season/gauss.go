package season

import (
	"strconv"
	"strings"

	"cubbyhole/api"
)

// parts is the number of parts of a period.
const parts = 4

// isValid reports whether numbers are valid.
func isValid(x [4]api.Gauss) bool {
	for _, g := range x {
		if !isPart(g.Re) || !isPart(g.Im) {
			return false
		}
	}
	return true
}

func isPart(n int) bool { return n >= -MaxPart && n <= MaxPart }

// number returns a valid number as a complex one. Sums and products of a few of these are exact: their parts stay far
// below the greatest ones that are whole numbers without gaps.
func number(g api.Gauss) complex128 { return complex(float64(g.Re), float64(g.Im)) }

// gauss returns a complex number with whole parts.
func gauss(z complex128) api.Gauss { return api.Gauss{Re: int(real(z)), Im: int(imag(z))} }

// power returns i to the power of any exponent.
func power(exponent int) complex128 {
	powers := [4]complex128{1, 1i, -1, -1i}
	return powers[exponent&(parts-1)]
}

// sums returns the sums of x[j] times i to the power of sign j k, for each k.
func sums(x [4]api.Gauss, sign int) [4]complex128 {
	var y [4]complex128
	for k := range y {
		for j := range x {
			y[k] += number(x[j]) * power(sign*j*k)
		}
	}
	return y
}

// Transform returns the transform of four numbers, or an error.
func Transform(x [4]api.Gauss) ([4]api.Gauss, api.Errno) {
	if !isValid(x) {
		return [4]api.Gauss{}, api.ErrArg
	}
	var y [4]api.Gauss
	for k, z := range sums(x, -1) {
		y[k] = gauss(z)
	}
	return y, api.OK
}

// Inverse returns the inverse transform of four numbers, or an error.
func Inverse(x [4]api.Gauss) ([4]api.Gauss, api.Errno) {
	if !isValid(x) {
		return [4]api.Gauss{}, api.ErrArg
	}
	var y [4]api.Gauss
	for j, z := range sums(x, 1) {
		g := gauss(z)
		if g.Re%parts != 0 || g.Im%parts != 0 {
			return [4]api.Gauss{}, api.ErrCheck
		}
		y[j] = api.Gauss{Re: g.Re / parts, Im: g.Im / parts}
	}
	return y, api.OK
}

// Product returns the cyclic product of four numbers and four others, or an error.
func Product(x, y [4]api.Gauss) ([4]api.Gauss, api.Errno) {
	if !isValid(x) || !isValid(y) {
		return [4]api.Gauss{}, api.ErrArg
	}
	var sum [4]complex128
	for a := range x {
		for b := range y {
			sum[(a+b)%parts] += number(x[a]) * number(y[b])
		}
	}
	var z [4]api.Gauss
	for j := range sum {
		z[j] = gauss(sum[j])
	}
	return z, api.OK
}

// Turn turns four numbers.
func Turn(x [4]api.Gauss, n int) [4]api.Gauss {
	var y [4]api.Gauss
	for j, g := range x {
		// The last two bits are the rest modulo 4 also below 0.
		y[(j+n&(parts-1))%parts] = g
	}
	return y
}

// Text returns the text of a number, or an error.
func Text(g api.Gauss) (string, api.Errno) {
	if !isPart(g.Re) || !isPart(g.Im) {
		return "", api.ErrArg
	}
	sign := "+"
	if g.Im < 0 {
		sign = ""
	}
	return strconv.Itoa(g.Re) + sign + strconv.Itoa(g.Im) + "i", api.OK
}

// Parse returns the number with a text, or an error.
func Parse(s string) (api.Gauss, api.Errno) {
	rest := strings.TrimSuffix(s, "i")
	at := max(0, strings.LastIndexAny(rest, "+-"))
	re, _ := strconv.Atoi(rest[:at])
	im, _ := strconv.Atoi(rest[at:])
	g := api.Gauss{Re: re, Im: im}
	// The parts are read leniently: only what is written again is accepted.
	if text, e := Text(g); e != api.OK || text != s {
		return api.Gauss{}, api.ErrFormat
	}
	return g, api.OK
}
