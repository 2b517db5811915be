package kernel

import (
	"garrison/api"
	"slices"
)

// What is answered is in memory of its own: the kernel goes on behind it, and whoever has it may do with it what he likes.

func apartHistory(h api.History) api.History {
	own := api.History{Spans: slices.Clone(h.Spans), Events: slices.Clone(h.Events)}
	for i, e := range own.Events {
		own.Events[i].Replies = slices.Clone(e.Replies)
	}
	return own
}

func apartState(s api.State) api.State {
	own := api.State{
		Arena:  api.Arena{Things: slices.Clone(s.Arena.Things), Free: apartLists(s.Arena.Free)},
		Nodes:  apartLists(s.Nodes),
		Tree:   slices.Clone(s.Tree),
		Ports:  slices.Clone(s.Ports),
		Limbo:  apartLists(s.Limbo),
		Roots:  slices.Clone(s.Roots),
		Sweeps: slices.Clone(s.Sweeps),
	}
	for i, p := range own.Ports {
		own.Ports[i].Queue = slices.Clone(p.Queue)
	}
	return own
}

func apartEpochs(e api.Epochs) api.Epochs {
	return api.Epochs{Now: e.Now, Pins: slices.Clone(e.Pins), Limbo: apartLists(e.Limbo)}
}

func apartLists[T any](l [][]T) [][]T {
	own := slices.Clone(l)
	for i, one := range own {
		own[i] = slices.Clone(one)
	}
	return own
}
