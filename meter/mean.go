package meter

// Mean is the mean of numbers, and the mean of the squares of what they are off it.
func Mean(list []float64) (float64, float64) {
	if len(list) == 0 {
		return 0, 0
	}
	count := float64(len(list))
	sum := 0.0
	for _, x := range list {
		sum += x
	}
	mean := sum / count
	squares := 0.0
	for _, x := range list {
		squares += square(x - mean)
	}
	return mean, squares / count
}

// square is a square that is rounded: without the conversion the compiler may fuse it with a sum that it goes into.
func square(x float64) float64 { return float64(x * x) }
