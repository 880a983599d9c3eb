package meter

// Short is a number in half the bits, and what was lost.
func Short(x float64) (float32, float64) {
	if !hasShort(x) {
		return 0, x
	}
	short := float32(x)
	return short, x - float64(short)
}

// hasShort says whether a number is near to one of half the bits. No number is not: it is neither above nor below anything.
func hasShort(x float64) bool {
	const bound = 0x1p128 - 0x1p103 // half way from the greatest float32 to where the next one would be
	return -bound < x && x < bound
}
