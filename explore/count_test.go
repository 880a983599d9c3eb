package explore_test

import (
	"testing"

	"gatehouse/api"
)

// 28.2: how many runs there are, if there are no more than most.

func TestCountAtItsEdges(t *testing.T) {
	for switches, n := range []int{2, 48, 908} {
		for _, most := range []int{n - 1, 1, 0, -1, -1 << 63} {
			wantCount(t, example(), two(), switches, most, 0, false)
		}
		for _, most := range []int{n, n + 1, 1<<63 - 1} {
			wantCount(t, example(), two(), switches, most, n, true)
		}
	}
}

func TestCountOfOneRun(t *testing.T) {
	for _, tasks := range [][][]api.Op{nil, {}, {nil}, {{}, {}}, {{register()}}, {nil, {register(), check(), revoke()}}} {
		for _, switches := range []int{-1, 0, 5} {
			wantCount(t, bare(), tasks, switches, 1, 1, true)
			wantCount(t, bare(), tasks, switches, 2, 1, true)
			wantCount(t, bare(), tasks, switches, 0, 0, false)
			wantCount(t, bare(), tasks, switches, -7, 0, false)
		}
	}
}

func TestCountOfAStoreThatIsRefused(t *testing.T) {
	for _, most := range []int{-1 << 63, -1, 0, 1, 1<<63 - 1} {
		for _, c := range refusedConfigs() {
			wantCount(t, c, two(), 2, most, 0, true)
		}
		wantCount(t, bare(), make([][]api.Op, 65), 0, most, 0, true)
		wantCount(t, bare(), [][]api.Op{make([]api.Op, 257)}, 0, most, 0, true)
	}
}

// What is beyond most is not gone through.
func TestCountKnowsEarly(t *testing.T) {
	for _, most := range []int{0, 1, 20} {
		wantCount(t, bare(), many(), 1000, most, 0, false)
	}
}
