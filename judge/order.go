package judge

import (
	"gatehouse/api"
	"gatehouse/mean"
)

// What a right order of calls is. Each of these asks one thing of it.

// inProgress is told of the end of a call that has not come.
const inProgress = -1

// allMayBe says whether each call's moments may be.
func allMayBe(calls []api.Call) bool {
	for _, c := range calls {
		if c.Began < 0 || c.Ended != inProgress && c.Ended < c.Began {
			return false
		}
	}
	return true
}

func hasEnded(c api.Call) bool { return c.Ended != inProgress }

// puts says whether a call puts its policy into the register.
func puts(c api.Call) bool { return c.Write && !c.Failed }

// fits says whether a call may be the next one while the register holds a policy: it asks for nothing, or was answered so.
func fits(c api.Call, policy api.Policy) bool {
	return c.Write || mean.Allows(policy, c.Triple) == c.Allowed
}

// complete says whether an order has places of calls alone, none of them twice, and each call that has ended.
func complete(calls []api.Call, order []int) bool {
	stands := make([]bool, len(calls))
	for _, k := range order {
		if k < 0 || k >= len(calls) || stands[k] {
			return false
		}
		stands[k] = true
	}
	for k, c := range calls {
		if hasEnded(c) && !stands[k] {
			return false
		}
	}
	return true
}

// inTime says whether no call stands ahead of one that ended earlier than it began. From behind, the earliest end so far speaks for all that stand behind.
func inTime(calls []api.Call, order []int) bool {
	earliest := inProgress
	for i := len(order) - 1; i >= 0; i-- {
		c := calls[order[i]]
		if earliest != inProgress && earliest < c.Began {
			return false
		}
		if hasEnded(c) && (earliest == inProgress || c.Ended < earliest) {
			earliest = c.Ended
		}
	}
	return true
}

// inTurn says whether each call fits where it stands.
func inTurn(first api.Policy, calls []api.Call, order []int) bool {
	held := first
	for _, k := range order {
		c := calls[k]
		if !fits(c, held) {
			return false
		}
		if puts(c) {
			held = c.Policy
		}
	}
	return true
}
