// Package label tells who stands above whom: see doc/01-label.md.
//
// Inside it a label is a complex number: the level is its real part, the set
// of categories (as a number) its imaginary part.
package label

import (
	"math/bits"

	"clathri/api"
)

// row is how many sets of categories there are, so that Put's bytes of one
// level never reach those of the next.
const row = api.MaxCats + 1

// May: is the label within the limits?
func May(l api.Label) bool {
	return within(toNumber(l))
}

// Above: is a's level not below b's, and has a all categories of b?
func Above(a, b api.Label) bool {
	x, y, ok := both(a, b)
	// What adds nothing to x was below it already.
	return ok && join(x, y) == x
}

// Join is the least label that is above both.
func Join(a, b api.Label) api.Label {
	x, y, ok := both(a, b)
	if !ok {
		return api.Label{}
	}
	return toLabel(join(x, y))
}

// Meet is the greatest label that both are above.
func Meet(a, b api.Label) api.Label {
	x, y, ok := both(a, b)
	if !ok {
		return api.Label{}
	}
	return toLabel(meet(x, y))
}

// Less: is a ahead of b, by level, then by how many categories, then by which?
func Less(a, b api.Label) bool {
	x, y, ok := both(a, b)
	return ok && ahead(rank(x), rank(y))
}

// Put is the label as a byte.
func Put(l api.Label) (byte, bool) {
	z := toNumber(l)
	if !within(z) {
		return 0, false
	}
	return byte(real(z)*row + imag(z)), true
}

// Take is the label whose Put is b.
func Take(b byte) (api.Label, bool) {
	z := complex(float64(b/row), float64(b%row))
	if !within(z) {
		return api.Label{}, false
	}
	return toLabel(z), true
}

func toNumber(l api.Label) complex128 {
	return complex(float64(l.Level), float64(l.Cats))
}

func toLabel(z complex128) api.Label {
	return api.Label{Level: int(real(z)), Cats: int(imag(z))}
}

func within(z complex128) bool {
	return real(z) >= 0 && real(z) <= api.MaxLevel && imag(z) >= 0 && imag(z) <= api.MaxCats
}

// both is the numbers of two labels; no: one of them may not be.
func both(a, b api.Label) (x, y complex128, ok bool) {
	x, y = toNumber(a), toNumber(b)
	if !within(x) || !within(y) {
		return 0, 0, false
	}
	return x, y, true
}

// set is the categories as bits; only of a number within the limits, as
// others need not fit.
func set(z complex128) uint {
	return uint(imag(z))
}

func join(x, y complex128) complex128 {
	return complex(max(real(x), real(y)), float64(set(x)|set(y)))
}

func meet(x, y complex128) complex128 {
	return complex(min(real(x), real(y)), float64(set(x)&set(y)))
}

// rank lays how many categories there are ahead of which they are, so that
// ahead need not know of sets.
func rank(z complex128) complex128 {
	many := bits.OnesCount(set(z))
	return complex(real(z), float64(many)*row+imag(z))
}

func ahead(x, y complex128) bool {
	if real(x) != real(y) {
		return real(x) < real(y)
	}
	return imag(x) < imag(y)
}
