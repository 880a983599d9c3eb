package crew

import (
	"iter"
	"sync"
)

// handOn adds a number to each that comes from ahead, and hands it on.
func handOn(ahead iter.Seq[int], add int, behind chan<- int, all *sync.WaitGroup) {
	defer all.Done()
	defer close(behind)
	for n := range ahead {
		behind <- n + add
	}
}

// received goes over what a channel brings, until its sender is done.
func received(numbers <-chan int) iter.Seq[int] {
	return func(yield func(int) bool) {
		for {
			n, more := <-numbers
			if !more || !yield(n) {
				return
			}
		}
	}
}

// send sends numbers, until the last one is taken or nobody takes any more. It never has a choice between the two: no turn is left when enough is told.
func send(part []int, numbers chan<- int, enough <-chan struct{}, all *sync.WaitGroup) {
	defer all.Done()
	defer close(numbers)
	for _, n := range part {
		select {
		case numbers <- n:
		case <-enough:
			return
		}
	}
}

// take takes a number with each turn, where there is such a sender and it has one left.
func take(senders []<-chan int, turns []int) []int {
	var taken []int
	for _, turn := range turns {
		if turn < 0 || turn >= len(senders) {
			continue
		}
		if n, more := <-senders[turn]; more {
			taken = append(taken, n)
		}
	}
	return taken
}
