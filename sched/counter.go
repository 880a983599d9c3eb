package sched

import "slices"

// Counter is a machine of so many steps.
type Counter struct {
	steps int   // how many it has, at least one
	times []int // a number for each step so far
}

// NewCounter is a machine of so many steps.
func NewCounter(n int) *Counter { return &Counter{steps: max(n, 1)} }

// Step is a step.
func (c *Counter) Step(now int) bool {
	if len(c.times) < c.steps {
		c.times = append(c.times, now)
	}
	return len(c.times) == c.steps
}

// Times are the moments of the steps so far.
func (c *Counter) Times() []int { return slices.Clone(c.times) }
