package crew

import "sync"

// inTurn makes a step for each pick, in their order: that of a task in the task's own goroutine, that of no task here. A step has been made ahead of the next one, so that steps may share what they like.
func inTurn(tasks int, picks []int, step func(task int)) {
	var all sync.WaitGroup
	all.Add(tasks)
	turns := make([]chan struct{}, tasks)
	for task := range turns {
		turns[task] = make(chan struct{})
		go takeTurns(turns[task], func() { step(task) }, &all)
	}
	for _, task := range picks {
		if task < 0 || task >= tasks {
			step(task)
			continue
		}
		turns[task] <- struct{}{}
		<-turns[task]
	}
	for _, turn := range turns {
		close(turn)
	}
	all.Wait()
}

// takeTurns makes a step with each turn that comes, and gives the turn back along the same channel. That is enough where nobody else is at the channel's other end, and nothing lies in it between.
func takeTurns(turn chan struct{}, step func(), all *sync.WaitGroup) {
	defer all.Done()
	for {
		if _, more := <-turn; !more {
			return
		}
		step()
		turn <- struct{}{}
	}
}
