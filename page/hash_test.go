package page_test

import (
	"math"
	"math/big"
	"testing"
)

// slowHash reckons with numbers of any length: nothing wraps round.
func slowHash(key, size int) int {
	if size < 1 {
		return 0
	}
	n := new(big.Int).Mul(big.NewInt(int64(key)), big.NewInt(40503))
	n.Mod(n, big.NewInt(65536)) // from 0 to 65535, also of what is below 0
	return int(n.Int64() % int64(size))
}

var hashKeys = []int{
	math.MinInt, math.MinInt + 1, -1 << 62, -1<<48 - 7, -65537, -65536, -65535, -9, -4, -3, -2, -1, 0, 1, 2, 3, 4, 5, 7, 9, 11, 14,
	16383, 32767, 32768, 65535, 65536, 65537, 1<<22 + 1, 1<<31 - 1, 1 << 47, 1<<48 + 3, 1 << 62, math.MaxInt / 40503, math.MaxInt/40503 + 1, math.MaxInt - 1, math.MaxInt,
}

func TestHashOfEachKeyAndSize(t *testing.T) {
	for _, key := range hashKeys {
		for _, size := range []int{math.MinInt, -65536, -8, -2, -1, 0, 1, 2, 3, 5, 7, 8, 100, 512, 4095, 4096, 65535, 65536, 65537, 1 << 20, math.MaxInt} {
			wantHash(t, key, size, slowHash(key, size))
		}
	}
}

// All sizes that a table may have, and those beside them.
func TestHashOfSmallKeys(t *testing.T) {
	for key := -3000; key < 3000; key++ {
		for size := -2; size < 40; size++ {
			wantHash(t, key, size, slowHash(key, size))
		}
		for size := 2; size <= 4096; size *= 2 {
			wantHash(t, key, size, slowHash(key, size))
		}
	}
}

func TestHashByHand(t *testing.T) {
	for _, c := range []struct{ key, size, want int }{
		{0, 8, 0}, {0, 65536, 0}, {1, 65536, 40503}, {1, 1 << 40, 40503}, {2, 65536, 15470}, {-1, 65536, 25033}, {65536, 65536, 0}, {65537, 65536, 40503},
		{math.MaxInt, 65536, 25033}, {math.MinInt, 65536, 0}, {5, 1, 0}, {1, 4096, 3639}, {1, math.MinInt, 0}, {1, -1, 0},
	} {
		wantHash(t, c.key, c.size, c.want)
	}
}
