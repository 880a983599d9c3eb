package meter

// Compass adds up turns: a moment m counts as the m-th power of i.
func Compass(times []int) complex128 {
	var sum complex128
	for _, m := range times {
		sum += turn(m)
	}
	return sum
}

// turn is the m-th power of i.
func turn(m int) complex128 {
	switch m & 3 { // the last two bits are what m is more than a multiple of 4, below 0 too
	case 0:
		return 1
	case 1:
		return 1i
	case 2:
		return -1
	default:
		return -1i
	}
}

// Lean is how far a sum of turns is from none, squared.
func Lean(c complex128) float64 { return square(real(c)) + square(imag(c)) }
