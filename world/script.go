package world

import (
	"sync"

	"usher/api"
)

// play lets one goroutine send the steps and another one, to which the machine belongs until it ends, play them; it answers what went out, in order.
func play(m *machine, script []api.Step) []api.Out {
	steps := make(chan api.Step)
	outs := make(chan api.Out)
	var both sync.WaitGroup
	both.Add(2)
	go func() {
		defer both.Done()
		send(script, steps)
	}()
	go func() {
		defer both.Done()
		m.run(steps, outs)
	}()
	list := receive(outs)
	both.Wait()
	return list
}

func send(script []api.Step, steps chan<- api.Step) {
	defer close(steps)
	for _, step := range script {
		steps <- step
	}
}

// run plays the steps as they come, and ends with them.
func (m *machine) run(steps <-chan api.Step, outs chan<- api.Out) {
	defer close(outs)
	number := 0
	for step := range steps {
		m.do(step, func(text string) {
			outs <- api.Out{Step: number, Conn: step.Conn, Text: text}
		})
		number++
	}
}

func receive(outs <-chan api.Out) []api.Out {
	var list []api.Out
	for out := range outs {
		list = append(list, out)
	}
	return list
}
