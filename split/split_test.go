package split_test

import (
	"slices"
	"testing"

	"isthmus/api"
	"isthmus/graph"
	"isthmus/split"
)

// made is a graph with those edges, put in one by one.
func made(t *testing.T, n int, edges ...api.Edge) *graph.Graph {
	t.Helper()
	g, err := graph.New(n)
	if err != nil {
		t.Fatal(err)
	}
	for _, e := range edges {
		if err := g.Add(e.Id, e.A, e.B); err != nil {
			t.Fatalf("graph: Add(%v): %v", e, err)
		}
	}
	return g
}

// tells holds the pairs of a graph with those edges against what is wanted.
func tells(t *testing.T, n int, edges []api.Edge, want ...api.Pair) {
	t.Helper()
	if got := split.Pairs(made(t, n, edges...)); !slices.Equal(got, want) {
		t.Errorf("Pairs of %d nodes, %v: %v, want %v", n, edges, got, want)
	}
}

// together says by the document's words whether edges lead from one node to another one.
func together(edges []api.Edge, x, y int) bool {
	var reached [api.MaxNodes]bool
	reached[x] = true
	for grew := true; grew; {
		grew = false
		for _, e := range edges {
			if reached[e.A] != reached[e.B] {
				reached[e.A], reached[e.B] = true, true
				grew = true
			}
		}
	}
	return reached[y]
}

// less are the edges without all of some nodes.
func less(edges []api.Edge, nodes ...int) []api.Edge {
	return slices.DeleteFunc(slices.Clone(edges), func(e api.Edge) bool {
		return slices.Contains(nodes, e.A) || slices.Contains(nodes, e.B)
	})
}

// part says by the document's words whether two nodes part together two others that neither of them parts alone.
func part(n int, edges []api.Edge, a, b int) bool {
	for x := range n {
		for y := range x {
			if x == a || x == b || y == a || y == b {
				continue
			}
			if together(less(edges, a), x, y) && together(less(edges, b), x, y) && !together(less(edges, a, b), x, y) {
				return true
			}
		}
	}
	return false
}

// holds holds the pairs of a small graph against the document's words.
func holds(t *testing.T, n int, edges []api.Edge) {
	t.Helper()
	var want []api.Pair
	for a := range n {
		for b := a + 1; b < n; b++ {
			if part(n, edges, a, b) {
				want = append(want, api.Pair{A: a, B: b})
			}
		}
	}
	tells(t, n, edges, want...)
}

// path are the edges of a row of k nodes from first on, with numbers from id on.
func path(id, first, k int) []api.Edge {
	var edges []api.Edge
	for i := range k - 1 {
		edges = append(edges, api.Edge{Id: id + i, A: first + i, B: first + i + 1})
	}
	return edges
}

// ring are the edges of a ring of k nodes from first on, with numbers from id on.
func ring(id, first, k int) []api.Edge {
	return append(path(id, first, k), api.Edge{Id: id + k - 1, A: first, B: first + k - 1})
}

// facing are any two of a ring of k nodes from first on that are not beside each other.
func facing(first, k int) []api.Pair {
	var pairs []api.Pair
	for x := range k {
		for y := x + 2; y < k && y-x < k-1; y++ {
			pairs = append(pairs, api.Pair{A: first + x, B: first + y})
		}
	}
	return pairs
}

// full are the edges between any two of k nodes from first on, with numbers from id on.
func full(id, first, k int) []api.Edge {
	var edges []api.Edge
	for x := range k {
		for y := range x {
			edges = append(edges, api.Edge{Id: id + len(edges), A: first + y, B: first + x})
		}
	}
	return edges
}

func TestNoNodes(t *testing.T) {
	tells(t, 0, nil)
}

func TestNoEdges(t *testing.T) {
	for n := 1; n <= api.MaxNodes; n++ {
		tells(t, n, nil)
	}
}

// TestTheDocumentsExample: of a ring of four nodes the two that face each other part together, twice.
func TestTheDocumentsExample(t *testing.T) {
	tells(t, 4, ring(0, 0, 4), api.Pair{A: 0, B: 2}, api.Pair{A: 1, B: 3})
}

// TestOneRing: two that are not beside each other part it together. Nodes without edges are in no two, wherever they lie.
func TestOneRing(t *testing.T) {
	for k := 2; k <= 9; k++ {
		tells(t, k, ring(0, 0, k), facing(0, k)...)
		tells(t, k+3, ring(0, 1, k), facing(1, k)...)
		tells(t, k+3, ring(20, 3, k), facing(3, k)...)
	}
}

// TestOneOfThemPartsAlone: what one parts without the other one, both do not part together.
func TestOneOfThemPartsAlone(t *testing.T) {
	for k := 2; k <= 7; k++ {
		tells(t, 8, path(0, 0, k))
	}
	star := []api.Edge{{Id: 0, A: 0, B: 2}, {Id: 1, A: 1, B: 2}, {Id: 2, A: 2, B: 3}, {Id: 3, A: 2, B: 4}}
	tells(t, 5, star)
	// Two rings of three, and of four, with one node in common, which parts all that a node of either would part with one of the other one.
	tells(t, 5, append(ring(0, 0, 3), ring(3, 2, 3)...))
	tells(t, 7, append(ring(0, 0, 4), ring(4, 3, 4)...), append(facing(0, 4), facing(3, 4)...)...)
	// A ring with a row at it: node 1 parts the row, alone; nodes 0 and 2 part all of that from node 3.
	edges := append(ring(0, 0, 4), api.Edge{Id: 4, A: 1, B: 4}, api.Edge{Id: 5, A: 4, B: 5})
	tells(t, 6, edges, facing(0, 4)...)
}

// TestAloneHereAndTogetherThere: a node that parts some alone parts others with another one.
func TestAloneHereAndTogetherThere(t *testing.T) {
	// Node 0 parts 4 from all others, alone, and 1 from 3 with node 2.
	edges := append(ring(0, 0, 4), api.Edge{Id: 9, A: 0, B: 4})
	tells(t, 5, edges, facing(0, 4)...)
	// Both do so.
	edges = append(edges, api.Edge{Id: 8, A: 2, B: 5})
	tells(t, 6, edges, facing(0, 4)...)
	// Node 4 hangs at 0 and 5 at 2: nodes 0 and 2 alone part these, though they are not together without both, too.
	tells(t, 6, []api.Edge{{Id: 0, A: 0, B: 2}, {Id: 1, A: 0, B: 4}, {Id: 2, A: 2, B: 5}})
}

// TestTheirOwnEndsAreNoOthers: a node of the two is parted from all by taking its edges away, which is not meant.
func TestTheirOwnEndsAreNoOthers(t *testing.T) {
	tells(t, 2, path(0, 0, 2))
	tells(t, 3, ring(0, 0, 3))
	tells(t, 4, full(0, 0, 4))
	tells(t, 7, full(0, 1, 6))
}

// TestAnEdgeBetweenBoth: it holds nothing together without them; one between those that they part does.
func TestAnEdgeBetweenBoth(t *testing.T) {
	across := api.Edge{Id: 7, A: 0, B: 2}
	tells(t, 4, append(ring(0, 0, 4), across), api.Pair{A: 0, B: 2})
	tells(t, 4, append(ring(0, 0, 4), api.Edge{Id: 7, A: 1, B: 3}), api.Pair{A: 1, B: 3})
	tells(t, 4, append(ring(0, 0, 4), across, api.Edge{Id: 8, A: 1, B: 3}))
	// A ring of six with one across: 0 and 2 leave all others together by that one, as 3 and 5 do.
	tells(t, 6, append(ring(0, 0, 6), api.Edge{Id: 7, A: 1, B: 4}), api.Pair{A: 0, B: 4}, api.Pair{A: 1, B: 3}, api.Pair{A: 1, B: 4}, api.Pair{A: 1, B: 5}, api.Pair{A: 2, B: 4})
}

// TestSameEnds: however many edges two nodes have between them, they are gone with either.
func TestSameEnds(t *testing.T) {
	tells(t, 2, []api.Edge{{Id: 0, A: 0, B: 1}, {Id: 1, A: 0, B: 1}, {Id: 2, A: 0, B: 1}})
	tells(t, 5, append(ring(0, 0, 5), ring(5, 0, 5)...), facing(0, 5)...)
}

// TestTwoPartSeveral: two nodes between which several ways lead are told once.
func TestTwoPartSeveral(t *testing.T) {
	var edges []api.Edge
	for x := 2; x < 7; x++ {
		edges = append(edges, api.Edge{Id: x, A: 0, B: x}, api.Edge{Id: x + 10, A: 1, B: x})
	}
	tells(t, 7, edges, api.Pair{A: 0, B: 1})
	// Two that are the last ones.
	for i := range edges {
		edges[i].A, edges[i].B = 6-edges[i].B, 6-edges[i].A
	}
	tells(t, 7, edges, api.Pair{A: 5, B: 6})
}

// TestSeveralParts: each part of a graph has its own; two nodes of different parts part nothing together.
func TestSeveralParts(t *testing.T) {
	edges := append(append(ring(40, 0, 4), ring(0, 5, 5)...), path(20, 10, 4)...)
	tells(t, 15, edges, append(facing(0, 4), facing(5, 5)...)...)
}

// TestByTheFirstThenTheSecond: they rise, however the nodes lie to each other.
func TestByTheFirstThenTheSecond(t *testing.T) {
	edges := []api.Edge{{Id: 4, A: 0, B: 5}, {Id: 1, A: 2, B: 5}, {Id: 3, A: 2, B: 3}, {Id: 0, A: 1, B: 3}, {Id: 2, A: 1, B: 4}, {Id: 5, A: 0, B: 4}}
	// The ring is 0 5 2 3 1 4.
	want := []api.Pair{{A: 0, B: 1}, {A: 0, B: 2}, {A: 0, B: 3}, {A: 1, B: 2}, {A: 1, B: 5}, {A: 2, B: 4}, {A: 3, B: 4}, {A: 3, B: 5}, {A: 4, B: 5}}
	tells(t, 6, edges, want...)
}

// orders calls for each order of the edges.
func orders(edges []api.Edge, at int, call func([]api.Edge)) {
	if at == len(edges) {
		call(edges)
		return
	}
	for i := at; i < len(edges); i++ {
		edges[at], edges[i] = edges[i], edges[at]
		orders(edges, at+1, call)
		edges[at], edges[i] = edges[i], edges[at]
	}
}

// TestHowItGrewIsNotSeen: the same edges, in whichever order, with whichever numbers, and with others that came and went.
func TestHowItGrewIsNotSeen(t *testing.T) {
	edges := append(ring(3, 1, 4), api.Edge{Id: 0, A: 0, B: 3}, api.Edge{Id: api.MaxId, A: 1, B: 2})
	want := facing(1, 4)
	orders(slices.Clone(edges), 0, func(order []api.Edge) {
		tells(t, 5, order, want...)
		numbered := slices.Clone(edges)
		for i := range numbered {
			numbered[i].Id = order[i].Id
		}
		tells(t, 5, numbered, want...)
	})
	g := made(t, 5, append(edges, api.Edge{Id: 9, A: 2, B: 4}, api.Edge{Id: 1, A: 0, B: 1})...)
	// Node 0 holds 1 and 3 together now.
	if got := split.Pairs(g); !slices.Equal(got, []api.Pair{{A: 1, B: 3}}) {
		t.Errorf("Pairs: %v, want 1 and 3 alone", got)
	}
	for _, id := range []int{9, 1} {
		if err := g.Drop(id); err != nil {
			t.Fatal(err)
		}
	}
	if got := split.Pairs(g); !slices.Equal(got, want) {
		t.Errorf("Pairs: %v, want %v", got, want)
	}
}

// TestTheGraphStays: it is not changed, and what was answered is the caller's and sees nothing of what comes later (P4).
func TestTheGraphStays(t *testing.T) {
	g := made(t, 6, ring(0, 0, 5)...)
	before, want := g.Edges(), facing(0, 5)
	got, other := split.Pairs(g), split.Pairs(g)
	if !slices.Equal(got, want) || !slices.Equal(g.Edges(), before) || g.Nodes() != 6 {
		t.Errorf("Pairs: %v, the graph has now %v", got, g.Edges())
	}
	clear(other[:cap(other)])
	if err := g.Drop(2); err != nil {
		t.Fatal(err)
	}
	if !slices.Equal(got, want) {
		t.Errorf("what was answered is now %v", got)
	}
	if now := split.Pairs(g); len(now) > 0 {
		t.Errorf("Pairs without edge 2: %v", now)
	}
	if err := g.Add(2, 2, 3); err != nil {
		t.Fatal(err)
	}
	if now := split.Pairs(g); !slices.Equal(now, want) {
		t.Errorf("Pairs: %v, want %v", now, want)
	}
}

// TestAllThatThereMayBe: as many nodes and edges as a graph may have.
func TestAllThatThereMayBe(t *testing.T) {
	n := api.MaxNodes
	edges := append(append(ring(0, 0, n), ring(n, 0, n)...), ring(2*n, 0, n)...)
	tells(t, n, edges, facing(0, n)...)
	var ways []api.Edge
	for x := 1; x < n-1; x++ {
		ways = append(ways, api.Edge{Id: x, A: 0, B: x}, api.Edge{Id: n + x, A: x, B: n - 1})
	}
	tells(t, n, ways, api.Pair{A: 0, B: n - 1})
	tells(t, n, full(0, 0, 16))
}

// drawn calls for so many graphs that look drawn, the same each time: of up to so many nodes and edges.
func drawn(times, nodes, most int, call func(n int, edges []api.Edge)) {
	seed := 1
	next := func(below int) int {
		seed = seed * 48271 % (1<<31 - 1)
		return seed % below
	}
	for range times {
		n := 2 + next(nodes-1)
		var edges []api.Edge
		for i := range next(most) + 1 {
			x, y := next(n), next(n)
			if x != y {
				edges = append(edges, api.Edge{Id: i * 37 % 101, A: min(x, y), B: max(x, y)})
			}
		}
		call(n, edges)
	}
}

// TestAgainstTheWords: graphs of many kinds tell what the document's words tell.
func TestAgainstTheWords(t *testing.T) {
	drawn(300, 9, 20, func(n int, edges []api.Edge) {
		holds(t, n, edges)
	})
}

// TestSmallGraphs: all graphs of four and of five nodes of which no two edges have the same ends.
func TestSmallGraphs(t *testing.T) {
	for _, n := range []int{4, 5} {
		all := full(0, 0, n)
		for which := range 1 << len(all) {
			edges := slices.DeleteFunc(slices.Clone(all), func(e api.Edge) bool { return which>>e.Id&1 == 0 })
			holds(t, n, edges)
		}
	}
}
