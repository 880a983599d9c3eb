package bits

import "math/bits"

const maskBits = 16

// Mask is the mask of some numbers from 0 to 15.
func Mask(list ...int) uint16 {
	var m uint16
	for _, i := range list {
		if i >= 0 && i < maskBits {
			m |= 1 << i
		}
	}
	return m
}

// List is what stands in a mask, rising.
func List(m uint16) []int8 {
	list := make([]int8, 0, bits.OnesCount16(m))
	for i, in := range Spread(m) {
		if in != 0 {
			list = append(list, int8(i))
		}
	}
	return list
}

// Spread is a mask, number by number: 1 for what is in it, else 0.
func Spread(m uint16) [16]int8 {
	var a [maskBits]int8
	for i := range a {
		a[i] = int8(m >> i & 1)
	}
	return a
}

// Fold is the mask of what is not 0.
func Fold(a *[16]int8) uint16 {
	if a == nil {
		return 0
	}
	var m uint16
	for i, n := range a {
		if n != 0 {
			m |= 1 << i
		}
	}
	return m
}
