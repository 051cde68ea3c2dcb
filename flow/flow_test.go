package flow_test

import (
	"fmt"
	"math"
	"math/bits"
	"slices"
	"testing"

	"isthmus/api"
	"isthmus/block"
	"isthmus/bridge"
	"isthmus/cycle"
	"isthmus/flow"
	"isthmus/graph"
	"isthmus/plain"
	"isthmus/split"
)

// made is a graph with those edges, put in one by one.
func made(t *testing.T, n int, edges ...api.Edge) *graph.Graph {
	t.Helper()
	g, err := graph.New(n)
	if err != nil {
		t.Fatal(err)
	}
	for _, e := range edges {
		if err := g.Add(e.Id, e.A, e.B); err != nil {
			t.Fatalf("graph: Add(%v): %v", e, err)
		}
	}
	return g
}

// leads holds a way against the document's words: its edges lead from one node to another one, one behind the other.
func leads(t *testing.T, g *graph.Graph, a, b int, way []int) {
	t.Helper()
	at := a
	for _, id := range way {
		e, err := g.Edge(id)
		if err != nil || e.A != at && e.B != at {
			t.Errorf("way %v from %d to %d: edge %d (%v, %v) does not leave %d", way, a, b, id, e, err, at)
			return
		}
		at = graph.Other(e, at)
	}
	if at != b || len(way) == 0 {
		t.Errorf("way %v from %d to %d leads to %d", way, a, b, at)
	}
}

// tells holds what is told of two nodes, asked from either side, against what is wanted if there is no most; and with each most.
func tells(t *testing.T, g *graph.Graph, a, b, edges, nodes int) {
	t.Helper()
	for _, most := range []int{0, 1, 2, 3, edges - 1, edges, edges + 1, nodes - 1, nodes, nodes + 1, api.MaxEdges} {
		if most >= 0 && most <= api.MaxEdges {
			counts(t, g, a, b, most, min(edges, most), min(nodes, most))
			counts(t, g, b, a, most, min(edges, most), min(nodes, most))
		}
	}
}

// counts holds all three, asked once, against what is wanted.
func counts(t *testing.T, g *graph.Graph, a, b, most, edges, nodes int) {
	t.Helper()
	if got, err := flow.Edges(g, a, b, most); got != edges || err != nil {
		t.Errorf("Edges(%d, %d, %d): %d, %v, want %d", a, b, most, got, err, edges)
	}
	if got, err := flow.Nodes(g, a, b, most); got != nodes || err != nil {
		t.Errorf("Nodes(%d, %d, %d): %d, %v, want %d", a, b, most, got, err, nodes)
	}
	ways, err := flow.Ways(g, a, b, most)
	if len(ways) != edges || err != nil {
		t.Errorf("Ways(%d, %d, %d): %v, %v, want %d", a, b, most, ways, err, edges)
	}
	for _, way := range ways {
		leads(t, g, a, b, way)
	}
	all := slices.Sorted(slices.Values(slices.Concat(ways...)))
	if n := len(all); len(slices.Compact(all)) != n {
		t.Errorf("Ways(%d, %d, %d): %v: an edge is there twice", a, b, most, ways)
	}
	if t.Failed() {
		t.Fatalf("that was of %d nodes and the edges %v", g.Nodes(), g.Edges())
	}
}

// path are the edges of a row of k nodes from first on, with numbers from id on.
func path(id, first, k int) []api.Edge {
	var edges []api.Edge
	for i := range k - 1 {
		edges = append(edges, api.Edge{Id: id + i, A: first + i, B: first + i + 1})
	}
	return edges
}

// ring are the edges of a ring of k nodes from first on, with numbers from id on.
func ring(id, first, k int) []api.Edge {
	return append(path(id, first, k), api.Edge{Id: id + k - 1, A: first, B: first + k - 1})
}

// full are the edges between any two of k nodes from first on, with numbers from id on.
func full(id, first, k int) []api.Edge {
	var edges []api.Edge
	for x := range k {
		for y := range x {
			edges = append(edges, api.Edge{Id: id + len(edges), A: first + y, B: first + x})
		}
	}
	return edges
}

// same are k edges between two nodes, with numbers from id on.
func same(id, a, b, k int) []api.Edge {
	var edges []api.Edge
	for i := range k {
		edges = append(edges, api.Edge{Id: id + i, A: a, B: b})
	}
	return edges
}

// TestNotTogether: there is no way, neither in a graph without edges nor from one part to another one.
func TestNotTogether(t *testing.T) {
	for n := 2; n <= api.MaxNodes; n++ {
		tells(t, made(t, n), 0, n-1, 0, 0)
	}
	g := made(t, 9, append(full(0, 0, 4), ring(10, 5, 4)...)...)
	tells(t, g, 0, 4, 0, 0)
	tells(t, g, 3, 5, 0, 0)
	tells(t, g, 8, 1, 0, 0)
}

func TestPath(t *testing.T) {
	g := made(t, 8, path(20, 0, 7)...)
	for a := range 7 {
		for b := range a {
			tells(t, g, a, b, 1, 1)
		}
	}
	ways, err := flow.Ways(g, 4, 1, 1)
	if err != nil || fmt.Sprint(ways) != "[[23 22 21]]" {
		t.Errorf("Ways: %v, %v, want the edges as they lie from 4 to 1", ways, err)
	}
}

func TestRing(t *testing.T) {
	for k := 2; k <= 8; k++ {
		g := made(t, 9, ring(20, 1, k)...)
		for a := range k {
			for b := range a {
				tells(t, g, a+1, b+1, 2, 2)
			}
		}
	}
}

// TestFull: between any two of k nodes there are the edge between them and a way by each other one.
func TestFull(t *testing.T) {
	for k := 2; k <= 8; k++ {
		g := made(t, k, full(0, 0, k)...)
		for a := range k {
			for b := range a {
				tells(t, g, a, b, k-1, k-1)
			}
		}
	}
}

// TestSameEnds: several edges between two nodes are as many ways between these, but behind them lies one node.
func TestSameEnds(t *testing.T) {
	g := made(t, 4, append(same(10, 0, 1, 3), append(same(0, 1, 2, 2), same(20, 2, 3, 4)...)...)...)
	tells(t, g, 0, 1, 3, 3)
	tells(t, g, 1, 2, 2, 2)
	tells(t, g, 2, 3, 4, 4)
	tells(t, g, 0, 2, 2, 1)
	tells(t, g, 1, 3, 2, 1)
	tells(t, g, 0, 3, 2, 1)
}

// TestEdgesBetweenBothEnds: each is a way of its own, beside those by other nodes.
func TestEdgesBetweenBothEnds(t *testing.T) {
	edges := append(ring(0, 0, 5), same(10, 0, 2, 2)...)
	g := made(t, 5, edges...)
	tells(t, g, 0, 2, 4, 4)
	tells(t, g, 1, 3, 2, 2)
	tells(t, g, 0, 1, 2, 2)
	tells(t, g, 2, 4, 2, 2)
	g = made(t, 5, append(edges, same(20, 0, 1, 2)...)...)
	tells(t, g, 0, 2, 4, 4)
	tells(t, g, 0, 1, 4, 4)
}

// TestOneNodeInCommon: two rings have one, by which both ways lead, and which both must not.
func TestOneNodeInCommon(t *testing.T) {
	g := made(t, 5, append(ring(0, 0, 3), ring(3, 2, 3)...)...)
	tells(t, g, 0, 4, 2, 1)
	tells(t, g, 1, 3, 2, 1)
	tells(t, g, 0, 2, 2, 2)
	tells(t, g, 0, 1, 2, 2)
}

// TestBridgeBetweenRings: all that is beyond it has one way.
func TestBridgeBetweenRings(t *testing.T) {
	g := made(t, 8, append(append(full(0, 0, 4), full(10, 4, 4)...), api.Edge{Id: 30, A: 3, B: 4})...)
	tells(t, g, 0, 7, 1, 1)
	tells(t, g, 3, 4, 1, 1)
	tells(t, g, 0, 3, 3, 3)
	tells(t, g, 4, 7, 3, 3)
}

// TestTheShortestWayIsInTheWay: the shortest one takes an edge that none of those may have of which there are most.
func TestTheShortestWayIsInTheWay(t *testing.T) {
	edges := []api.Edge{
		{Id: 0, A: 0, B: 1}, {Id: 1, A: 1, B: 2}, {Id: 2, A: 2, B: 7},
		{Id: 3, A: 0, B: 3}, {Id: 4, A: 3, B: 4}, {Id: 5, A: 2, B: 4},
		{Id: 6, A: 1, B: 5}, {Id: 7, A: 5, B: 6}, {Id: 8, A: 6, B: 7},
	}
	g := made(t, 8, edges...)
	tells(t, g, 0, 7, 2, 2)
	ways, err := flow.Ways(g, 0, 7, api.MaxEdges)
	if err != nil || slices.Contains(slices.Concat(ways...), 1) {
		t.Errorf("Ways: %v, %v: edge 1 is of none of two", ways, err)
	}
	// The shortest one goes along edge 1 the way that is wrong: one of three goes it the other way.
	edges = slices.Concat(path(0, 0, 3), same(2, 2, 11, 1), path(10, 3, 2), path(20, 5, 2), path(30, 7, 2), path(40, 9, 2))
	for i, x := range []int{3, 5} {
		edges = append(edges, api.Edge{Id: 50 + i, A: 0, B: x}, api.Edge{Id: 60 + i, A: 2, B: x + 1})
	}
	for i, x := range []int{7, 9} {
		edges = append(edges, api.Edge{Id: 70 + i, A: 1, B: x}, api.Edge{Id: 80 + i, A: x + 1, B: 11})
	}
	tells(t, made(t, 12, edges...), 0, 11, 3, 2)
	// Three rows of four, of which the short way takes the middle of each.
	var rows []api.Edge
	for x := range 3 {
		rows = append(rows, path(10*x, 1+4*x, 4)...)
		rows = append(rows, api.Edge{Id: 10*x + 5, A: 0, B: 1 + 4*x}, api.Edge{Id: 10*x + 6, A: 4 + 4*x, B: 13})
	}
	rows = append(rows, api.Edge{Id: 50, A: 1, B: 8}, api.Edge{Id: 51, A: 5, B: 12}, api.Edge{Id: 52, A: 4, B: 9})
	tells(t, made(t, 14, rows...), 0, 13, 3, 3)
}

// TestNoNodeTwiceButNoEdge: two ways that cross at a node have no edge in common.
func TestNoNodeTwiceButNoEdge(t *testing.T) {
	// Node 3 is crossed by three ways, 0 to 7; one way goes round it.
	edges := append(append(same(0, 0, 3, 2), same(10, 3, 7, 2)...), path(20, 4, 4)...)
	edges = append(edges, api.Edge{Id: 30, A: 0, B: 1}, api.Edge{Id: 31, A: 1, B: 3}, api.Edge{Id: 32, A: 2, B: 3}, api.Edge{Id: 33, A: 2, B: 7}, api.Edge{Id: 34, A: 0, B: 4})
	tells(t, made(t, 8, edges...), 0, 7, 4, 2)
}

// TestMost: no more than that, whatever there is.
func TestMost(t *testing.T) {
	g := made(t, 12, append(full(0, 0, 11), same(60, 0, 1, 5)...)...)
	for most := range api.MaxEdges + 1 {
		counts(t, g, 0, 1, most, min(most, 15), min(most, 15))
		counts(t, g, 2, 0, most, min(most, 10), min(most, 10))
		counts(t, g, 11, 0, most, 0, 0)
	}
}

// TestAllThatThereMayBe: as many nodes, and as many edges as a graph may have, each of which is a way, or all of which are one.
func TestAllThatThereMayBe(t *testing.T) {
	tells(t, made(t, 10, same(0, 3, 9, api.MaxEdges)...), 3, 9, api.MaxEdges, api.MaxEdges)
	n := api.MaxNodes
	tells(t, made(t, n, path(0, 0, n)...), 0, n-1, 1, 1)
	edges := append(append(ring(0, 0, n), ring(n, 0, n)...), ring(2*n, 0, n)...)
	tells(t, made(t, n, edges...), 0, n/2, 6, 2)
	tells(t, made(t, n, edges...), 0, n-1, 6, 4)
	var ways []api.Edge
	for x := 1; x < n-1; x++ {
		ways = append(ways, api.Edge{Id: api.MaxId - x, A: 0, B: x}, api.Edge{Id: x, A: x, B: n - 1})
	}
	tells(t, made(t, n, ways...), 0, n-1, n-2, n-2)
	tells(t, made(t, n, ways...), 1, n-2, 2, 2)
}

// wrong asks all three what is wrong: each must answer the error without a place (P3), and nothing beside it (P2).
func wrong(t *testing.T, g *graph.Graph, a, b, most int, want api.Errno) {
	t.Helper()
	edges, err := flow.Edges(g, a, b, most)
	if e, bare := plain.Bare(err); edges != 0 || e != want || !bare {
		t.Errorf("Edges(%d, %d, %d): %d, %v, bare %v, want %v", a, b, most, edges, err, bare, want)
	}
	nodes, err := flow.Nodes(g, a, b, most)
	if e, bare := plain.Bare(err); nodes != 0 || e != want || !bare {
		t.Errorf("Nodes(%d, %d, %d): %d, %v, bare %v, want %v", a, b, most, nodes, err, bare, want)
	}
	ways, err := flow.Ways(g, a, b, most)
	if e, bare := plain.Bare(err); len(ways) != 0 || e != want || !bare {
		t.Errorf("Ways(%d, %d, %d): %v, %v, bare %v, want %v", a, b, most, ways, err, bare, want)
	}
}

// TestNoSuchNode: neither end may be one, whatever the other one and most are.
func TestNoSuchNode(t *testing.T) {
	g, one, none := made(t, 5, full(0, 0, 5)...), made(t, 1), made(t, 0)
	for _, x := range []int{-1, 5, 6, api.MaxNodes, math.MaxInt, math.MinInt} {
		for _, most := range []int{-1, 0, 3, api.MaxEdges, api.MaxEdges + 1} {
			for y := range 5 {
				wrong(t, g, x, y, most, api.ErrRange)
				wrong(t, g, y, x, most, api.ErrRange)
			}
			// Both are one, but no node: that is told first.
			wrong(t, g, x, x, most, api.ErrRange)
		}
	}
	wrong(t, one, 0, 1, 1, api.ErrRange)
	wrong(t, one, 1, 0, 1, api.ErrRange)
	wrong(t, none, 0, 0, 1, api.ErrRange)
	wrong(t, none, 0, 1, 1, api.ErrRange)
}

// TestNoSuchMost: it is told ahead of both being one.
func TestNoSuchMost(t *testing.T) {
	g := made(t, 5, full(0, 0, 5)...)
	for _, most := range []int{-1, -2, api.MaxEdges + 1, math.MaxInt, math.MinInt} {
		for a := range 5 {
			for b := range 5 {
				wrong(t, g, a, b, most, api.ErrRange)
			}
		}
	}
}

func TestBothAreOne(t *testing.T) {
	g := made(t, 5, full(0, 0, 5)...)
	for _, most := range []int{0, 1, 7, api.MaxEdges} {
		for a := range 5 {
			wrong(t, g, a, a, most, api.ErrArg)
		}
		wrong(t, made(t, 1), 0, 0, most, api.ErrArg)
	}
}

// TestTheGraphStays: it is not changed, and what is told is of the graph as it is then (P4).
func TestTheGraphStays(t *testing.T) {
	edges := append(ring(0, 0, 5), same(10, 0, 2, 2)...)
	g := made(t, 5, edges...)
	before := g.Edges()
	tells(t, g, 0, 2, 4, 4)
	wrong(t, g, 0, 5, 1, api.ErrRange)
	if !slices.Equal(g.Edges(), before) || g.Nodes() != 5 {
		t.Errorf("the graph has now %v, had %v", g.Edges(), before)
	}
	ways, _ := flow.Ways(g, 0, 2, 4)
	told := fmt.Sprint(ways)
	for _, id := range []int{10, 3} {
		if err := g.Drop(id); err != nil {
			t.Fatal(err)
		}
	}
	tells(t, g, 0, 2, 2, 2)
	tells(t, g, 3, 4, 1, 1)
	if fmt.Sprint(ways) != told {
		t.Errorf("what was answered is now %v, was %v", ways, told)
	}
}

// TestListsAreTheCallers: what came out may be written into and grown: no other list sees that (P4). The same is answered each time.
func TestListsAreTheCallers(t *testing.T) {
	g := made(t, 7, full(0, 0, 7)...)
	want, err := flow.Ways(g, 1, 5, api.MaxEdges)
	if err != nil || len(want) != 6 {
		t.Fatalf("Ways: %v, %v", want, err)
	}
	told := fmt.Sprint(want)
	for i := range want {
		got, _ := flow.Ways(g, 1, 5, api.MaxEdges)
		if fmt.Sprint(got) != told {
			t.Errorf("Ways: %v, before %v", got, told)
		}
		spoilt := got[i][:cap(got[i])]
		for j := range spoilt {
			spoilt[j] = -7
		}
		got[i] = want[i]
		if fmt.Sprint(got) != told {
			t.Errorf("a list wrote into another one: %v", got)
		}
	}
}

// way is one by the document's words that has no node twice: its edges, by their places, and its nodes but the last one.
type way struct{ edges, nodes uint }

// simple are all ways that have no node twice.
func simple(edges []api.Edge, at, b int, so way) []way {
	if at == b {
		return []way{so}
	}
	so.nodes |= 1 << at
	var ways []way
	for i, e := range edges {
		if e.A != at && e.B != at || so.nodes>>graph.Other(e, at)&1 == 1 {
			continue
		}
		on := so
		on.edges |= 1 << i
		ways = append(ways, simple(edges, graph.Other(e, at), b, on)...)
	}
	return ways
}

// packed is how many of the ways there can be at most of which no two have anything in common.
func packed(ways []way, common func(v, w way) bool) int {
	best := 0
	for i, v := range ways {
		rest := slices.DeleteFunc(slices.Clone(ways[i+1:]), func(w way) bool { return common(v, w) })
		if len(rest) >= best {
			best = max(best, 1+packed(rest, common))
		}
	}
	return best
}

// together says by the document's words whether edges lead from one node to another one.
func together(edges []api.Edge, x, y int) bool {
	var reached [api.MaxNodes]bool
	reached[x] = true
	for grew := true; grew; {
		grew = false
		for _, e := range edges {
			if reached[e.A] != reached[e.B] {
				reached[e.A], reached[e.B] = true, true
				grew = true
			}
		}
	}
	return reached[y]
}

// fewest is by the document's words how many edges must be taken away at least, so that two nodes are not together.
func fewest(edges []api.Edge, a, b int) int {
	best := len(edges)
	for which := range uint(1) << len(edges) {
		if bits.OnesCount(which) >= best {
			continue
		}
		var stay []api.Edge
		for i, e := range edges {
			if which>>i&1 == 0 {
				stay = append(stay, e)
			}
		}
		if !together(stay, a, b) {
			best = bits.OnesCount(which)
		}
	}
	return best
}

// holds holds all that is told of a small graph against the document's words.
func holds(t *testing.T, n int, edges []api.Edge) {
	t.Helper()
	g := made(t, n, edges...)
	for a := range n {
		for b := range a {
			ways := simple(edges, a, b, way{})
			byEdges := packed(ways, func(v, w way) bool { return v.edges&w.edges != 0 })
			byNodes := packed(ways, func(v, w way) bool { return v.edges&w.edges != 0 || v.nodes&w.nodes != 1<<a })
			tells(t, g, a, b, byEdges, byNodes)
			if got := fewest(edges, a, b); got != byEdges {
				t.Fatalf("%d edges part %d and %d of %v, which %d ways join", got, a, b, edges, byEdges)
			}
		}
	}
}

// TestSmallGraphs: all graphs of four nodes of which no two edges have the same ends, and such with the first ones twice and thrice.
func TestSmallGraphs(t *testing.T) {
	all := full(0, 0, 4)
	for which := range 1 << len(all) {
		edges := slices.DeleteFunc(slices.Clone(all), func(e api.Edge) bool { return which>>e.Id&1 == 0 })
		holds(t, 4, edges)
		holds(t, 4, append(edges, same(10, 0, 1, 2)...))
		holds(t, 4, append(edges, api.Edge{Id: 20, A: 1, B: 2}, api.Edge{Id: 11, A: 0, B: 2}))
	}
}

// drawn calls for so many graphs that look drawn, the same each time: of up to so many nodes and edges.
func drawn(times, nodes, most int, call func(n int, edges []api.Edge)) {
	seed := 1
	next := func(below int) int {
		seed = seed * 48271 % (1<<31 - 1)
		return seed % below
	}
	for range times {
		n := 2 + next(nodes-1)
		var edges []api.Edge
		for i := range next(most) + 1 {
			x, y := next(n), next(n)
			if x != y {
				edges = append(edges, api.Edge{Id: i * 37 % 101, A: min(x, y), B: max(x, y)})
			}
		}
		call(n, edges)
	}
}

// TestAgainstTheWords: graphs of many kinds tell what the document's words tell.
func TestAgainstTheWords(t *testing.T) {
	drawn(60, 7, 11, func(n int, edges []api.Edge) {
		holds(t, n, edges)
	})
}

// cut are the fewest edges that lead out of nodes among which the one is, and the other one is not.
func cut(n int, edges []api.Edge, a, b int) []int {
	var best []int
	for side := range uint(1) << n {
		if side>>a&1 == 0 || side>>b&1 == 1 {
			continue
		}
		var out []int
		for _, e := range edges {
			if side>>e.A&1 != side>>e.B&1 {
				out = append(out, e.Id)
			}
		}
		if side == 1<<a || len(out) < len(best) {
			best = out
		}
	}
	return best
}

// direct are the edges between two nodes, and the others.
func direct(edges []api.Edge, a, b int) (those, others []api.Edge) {
	for _, e := range edges {
		if e.A == min(a, b) && e.B == max(a, b) {
			those = append(those, e)
		} else {
			others = append(others, e)
		}
	}
	return those, others
}

// between is how many nodes must be taken away at least, so that two others are not together.
func between(n int, edges []api.Edge, a, b int) int {
	least := n
	for which := range uint(1) << n {
		if which>>a&1 == 1 || which>>b&1 == 1 {
			continue
		}
		stay := slices.DeleteFunc(slices.Clone(edges), func(e api.Edge) bool { return which>>e.A&1 == 1 || which>>e.B&1 == 1 })
		if !together(stay, a, b) {
			least = min(least, bits.OnesCount(which))
		}
	}
	return least
}

// TestAsManyWaysAsHold: so many edges, so many nodes (and the edges between both), and no fewer, part two nodes (7.2).
func TestAsManyWaysAsHold(t *testing.T) {
	drawn(40, 9, 40, func(n int, edges []api.Edge) {
		g := made(t, n, edges...)
		for a := range n {
			for b := range a {
				ids := cut(n, edges, a, b)
				those, others := direct(edges, a, b)
				tells(t, g, a, b, len(ids), len(those)+between(n, others, a, b))
				if whole, err := bridge.Of(g.Without(ids, nil)).Whole(a, b); whole || err != nil {
					t.Fatalf("%d and %d of %v without %v: %v, %v", a, b, edges, ids, whole, err)
				}
			}
		}
	})
}

// inOne says whether a list of lists has one with both.
func inOne(lists [][]int, a, b int) bool {
	return slices.ContainsFunc(lists, func(l []int) bool { return slices.Contains(l, a) && slices.Contains(l, b) })
}

// rounds are the nodes of each block that is more than a bridge.
func rounds(g *graph.Graph) [][]int {
	var rounds [][]int
	for _, ids := range block.Of(g).Parts() {
		var nodes []int
		for _, id := range ids {
			e, _ := g.Edge(id)
			nodes = append(nodes, e.A, e.B)
		}
		if len(ids) > 1 {
			rounds = append(rounds, nodes)
		}
	}
	return rounds
}

// TestWhatPartsIsWhatFewWaysJoin: what the other layers tell of two nodes, the ways between them tell, too.
func TestWhatPartsIsWhatFewWaysJoin(t *testing.T) {
	drawn(120, 12, 50, func(n int, edges []api.Edge) {
		g := made(t, n, edges...)
		b, thrice, rounds := bridge.Of(g), cycle.Of(g).Thrice(), rounds(g)
		// firm: three ways join any two, so that neither a node nor two part the graph.
		firm := true
		for x := range n {
			for y := range x {
				byEdges, _ := flow.Edges(g, x, y, 3)
				byNodes, _ := flow.Nodes(g, x, y, 3)
				whole, _ := b.Whole(x, y)
				twice, _ := b.Twice(x, y)
				if whole != (byEdges >= 1) || twice != (byEdges >= 2) || inOne(thrice, x, y) != (byEdges >= 3) {
					t.Errorf("%d and %d of %v: %d ways; whole %v, twice %v, thrice %v", x, y, edges, byEdges, whole, twice, thrice)
				}
				if whole != (byNodes >= 1) || inOne(rounds, x, y) != (byNodes >= 2) {
					t.Errorf("%d and %d of %v: %d ways; whole %v, blocks %v", x, y, edges, byNodes, whole, rounds)
				}
				firm = firm && byNodes >= 3
			}
		}
		none := len(b.Wholes()) == 1 && len(block.Of(g).Cuts()) == 0 && len(split.Pairs(g)) == 0
		if n >= 4 && firm != none {
			t.Errorf("any two of %v are joined by three ways: %v; no node parts, nor two: %v", edges, firm, none)
		}
	})
}
