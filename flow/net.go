package flow

import "slices"

// step leads along an edge from one place to another one.
type step struct{ id, from, to int }

// back is the step the other way.
func (s step) back() step { return step{s.id, s.to, s.from} }

// net is places, steps between them, and how often each may be gone.
type net struct {
	// leave has of each place the steps that leave it, in the order in which they were laid: which ways are found hangs on that, and not on the order of a map.
	leave map[int][]step
	// room has of each step how often it may yet be gone; one that is used up is not there.
	room map[step]int
}

// newNet is a net without places.
func newNet() *net {
	return &net{leave: map[int][]step{}, room: map[step]int{}}
}

// lay lays a step that may be gone once, and back so often.
func (n *net) lay(s step, back int) {
	n.leave[s.from] = append(n.leave[s.from], s)
	n.leave[s.to] = append(n.leave[s.to], s.back())
	n.room[s] = 1
	if back > 0 {
		n.room[s.back()] = back
	}
}

// free says whether a step may yet be gone.
func (n *net) free(s step) bool {
	_, there := n.room[s]
	return there
}

// take goes a step: it may be gone once less. To go it back takes that back, so that this may be done once more.
func (n *net) take(s step) {
	n.room[s]--
	if n.room[s] == 0 {
		delete(n.room, s)
	}
	n.room[s.back()]++
}

// fill goes as many ways as there can be, but at most most, and tells how many. A way may take steps of earlier ones back: these then go on along its rest, and it along theirs.
func (n *net) fill(from, to, most int) int {
	for k := range most {
		way := n.way(from, to, n.free)
		if len(way) == 0 {
			return k
		}
		for _, s := range way {
			n.take(s)
		}
	}
	return most
}

// undo takes one of the ways back that fill went, and tells the numbers of its steps. A step that may be gone once either way is used up just where one goes.
func (n *net) undo(from, to int) []int {
	var ids []int
	for _, s := range n.way(from, to, func(s step) bool { return !n.free(s) }) {
		n.take(s.back())
		ids = append(ids, s.id)
	}
	return ids
}

// way is a shortest way of steps that may go in, if there is one.
func (n *net) way(from, to int, in func(s step) bool) []step {
	came := map[int]step{from: {}}
	for next := []int{from}; len(next) > 0; next = next[1:] {
		for _, s := range n.leave[next[0]] {
			if _, been := came[s.to]; !been && in(s) {
				came[s.to] = s
				next = append(next, s.to)
			}
		}
	}
	if _, been := came[to]; !been {
		return nil
	}
	var way []step
	for at := to; at != from; at = came[at].from {
		way = append(way, came[at])
	}
	slices.Reverse(way)
	return way
}
