package graph_test

import (
	"fmt"
	"math"
	"slices"
	"testing"

	"isthmus/api"
	"isthmus/graph"
	"isthmus/plain"
)

func made(t *testing.T, n int) *graph.Graph {
	t.Helper()
	g, err := graph.New(n)
	if err != nil || g == nil {
		t.Fatalf("New(%d): %v, %v", n, g, err)
	}
	return g
}

// grown is a graph of n nodes with those edges, put in one by one.
func grown(t *testing.T, n int, edges ...api.Edge) *graph.Graph {
	t.Helper()
	g := made(t, n)
	for _, e := range edges {
		add(t, g, e.Id, e.A, e.B)
	}
	return g
}

func add(t *testing.T, g *graph.Graph, id, a, b int) {
	t.Helper()
	if err := g.Add(id, a, b); err != nil {
		t.Fatalf("Add(%d, %d, %d): %v", id, a, b, err)
	}
}

func drop(t *testing.T, g *graph.Graph, id int) {
	t.Helper()
	if err := g.Drop(id); err != nil {
		t.Fatalf("Drop(%d): %v", id, err)
	}
}

// isErr holds an error against an Errno without a place (P3).
func isErr(t *testing.T, what string, err error, want api.Errno) {
	t.Helper()
	if e, bare := plain.Bare(err); e != want || !bare {
		t.Errorf("%s: error %v, bare %v, want %d without a place", what, err, bare, int(want))
	}
}

// holds asks all that a graph of n nodes tells, and holds it against its edges, which rise.
func holds(t *testing.T, g *graph.Graph, n int, want ...api.Edge) {
	t.Helper()
	if got := g.Nodes(); got != n {
		t.Errorf("Nodes: %d, want %d", got, n)
	}
	if got := g.Edges(); !slices.Equal(got, want) {
		t.Errorf("Edges: %v, want %v", got, want)
	}
	for _, e := range want {
		if got, err := g.Edge(e.Id); err != nil || got != e {
			t.Errorf("Edge(%d): %v, %v, want %v", e.Id, got, err, e)
		}
	}
	for x := range n {
		holdsAt(t, g, x, want)
	}
}

func holdsAt(t *testing.T, g *graph.Graph, x int, all []api.Edge) {
	t.Helper()
	var want []api.Edge
	for _, e := range all {
		if e.A == x || e.B == x {
			want = append(want, e)
		}
	}
	if got, err := g.At(x); err != nil || !slices.Equal(got, want) {
		t.Errorf("At(%d): %v, %v, want %v", x, got, err, want)
	}
}

// full are MaxEdges edges between n nodes, every other number from first on, several of the same ends.
func full(n, first int) []api.Edge {
	var edges []api.Edge
	for i := range api.MaxEdges {
		a := i % (n - 1)
		edges = append(edges, api.Edge{Id: first + 2*i, A: a, B: a + 1})
	}
	return edges
}

func TestNewHasNoEdges(t *testing.T) {
	for n := 0; n <= api.MaxNodes; n++ {
		holds(t, made(t, n), n)
	}
}

func TestNewOutOfRange(t *testing.T) {
	for _, n := range []int{-1, -2, math.MinInt, api.MaxNodes + 1, api.MaxNodes + 2, math.MaxInt} {
		g, err := graph.New(n)
		if g != nil {
			t.Errorf("New(%d) made a graph", n)
		}
		isErr(t, fmt.Sprintf("New(%d)", n), err, api.ErrRange)
	}
}

func TestAddHasTheLesserEndFirst(t *testing.T) {
	g := made(t, 5)
	add(t, g, 4, 1, 3)
	holds(t, g, 5, api.Edge{Id: 4, A: 1, B: 3})
	add(t, g, 9, 4, 0)
	holds(t, g, 5, api.Edge{Id: 4, A: 1, B: 3}, api.Edge{Id: 9, A: 0, B: 4})
	add(t, g, 6, 3, 2)
	holds(t, g, 5, api.Edge{Id: 4, A: 1, B: 3}, api.Edge{Id: 6, A: 2, B: 3}, api.Edge{Id: 9, A: 0, B: 4})
}

func TestSeveralOfTheSameEnds(t *testing.T) {
	g := made(t, 2)
	add(t, g, 3, 0, 1)
	add(t, g, 1, 1, 0)
	add(t, g, 2, 0, 1)
	one, two, three := api.Edge{Id: 1, A: 0, B: 1}, api.Edge{Id: 2, A: 0, B: 1}, api.Edge{Id: 3, A: 0, B: 1}
	holds(t, g, 2, one, two, three)
	drop(t, g, 2)
	holds(t, g, 2, one, three)
}

func TestLeastAndGreatestNumber(t *testing.T) {
	n := api.MaxNodes
	g := made(t, n)
	add(t, g, api.MaxId, n-1, 0)
	add(t, g, 0, n-2, n-1)
	add(t, g, api.MaxId-1, 0, 1)
	holds(t, g, n, api.Edge{Id: 0, A: n - 2, B: n - 1}, api.Edge{Id: api.MaxId - 1, A: 0, B: 1}, api.Edge{Id: api.MaxId, A: 0, B: n - 1})
	drop(t, g, api.MaxId)
	drop(t, g, 0)
	holds(t, g, n, api.Edge{Id: api.MaxId - 1, A: 0, B: 1})
}

// orders calls for each order of the edges.
func orders(edges []api.Edge, at int, call func([]api.Edge)) {
	if at == len(edges) {
		call(edges)
		return
	}
	for i := at; i < len(edges); i++ {
		edges[at], edges[i] = edges[i], edges[at]
		orders(edges, at+1, call)
		edges[at], edges[i] = edges[i], edges[at]
	}
}

func TestNumbersRiseHoweverTheyCame(t *testing.T) {
	want := []api.Edge{{Id: 0, A: 2, B: 3}, {Id: 5, A: 0, B: 3}, {Id: 6, A: 0, B: 1}, {Id: 40, A: 1, B: 2}, {Id: 700, A: 0, B: 2}}
	orders(slices.Clone(want), 0, func(edges []api.Edge) {
		g := grown(t, 4, edges...)
		holds(t, g, 4, want...)
		for _, e := range edges[1:] {
			drop(t, g, e.Id)
		}
		holds(t, g, 4, edges[0])
	})
}

// wrong is an Add that fails.
type wrong struct {
	id, a, b int
	want     api.Errno
}

// refuses asks for each of them, and whether nothing is changed (P2).
func refuses(t *testing.T, g *graph.Graph, n int, edges []api.Edge, all []wrong) {
	t.Helper()
	for _, w := range all {
		isErr(t, fmt.Sprintf("Add(%d, %d, %d)", w.id, w.a, w.b), g.Add(w.id, w.a, w.b), w.want)
		holds(t, g, n, edges...)
	}
}

func TestAddOutOfRange(t *testing.T) {
	edges := []api.Edge{{Id: 3, A: 0, B: 1}, {Id: 8, A: 1, B: 4}}
	refuses(t, grown(t, 5, edges...), 5, edges, []wrong{
		{-1, 0, 2, api.ErrRange}, {math.MinInt, 0, 2, api.ErrRange},
		{api.MaxId + 1, 0, 2, api.ErrRange}, {math.MaxInt, 0, 2, api.ErrRange},
		{4, -1, 2, api.ErrRange}, {4, 2, -1, api.ErrRange}, {4, 5, 2, api.ErrRange}, {4, 2, 5, api.ErrRange},
		{4, math.MinInt, 2, api.ErrRange}, {4, 2, math.MaxInt, api.ErrRange},
	})
	refuses(t, made(t, 0), 0, nil, []wrong{{0, 0, 0, api.ErrRange}, {0, 0, 1, api.ErrRange}})
	refuses(t, made(t, 1), 1, nil, []wrong{{0, 0, 0, api.ErrArg}, {0, 0, 1, api.ErrRange}, {0, 1, 0, api.ErrRange}})
}

// TestAddTellsTheFirst: of several errors the one told first (P3).
func TestAddTellsTheFirst(t *testing.T) {
	edges := []api.Edge{{Id: 3, A: 0, B: 1}, {Id: 8, A: 1, B: 4}}
	refuses(t, grown(t, 5, edges...), 5, edges, []wrong{
		{-1, 2, 2, api.ErrRange}, {api.MaxId + 1, 2, 2, api.ErrRange}, {4, 5, 5, api.ErrRange}, {4, -1, -1, api.ErrRange},
		{3, 0, 5, api.ErrRange}, {3, -1, 0, api.ErrRange},
		{4, 2, 2, api.ErrArg}, {3, 2, 2, api.ErrArg},
		{3, 0, 1, api.ErrTwice}, {8, 2, 3, api.ErrTwice},
	})
	edges = full(5, 1)
	refuses(t, grown(t, 5, edges...), 5, edges, []wrong{
		{-1, 0, 1, api.ErrRange}, {0, 0, 5, api.ErrRange}, {0, 5, 5, api.ErrRange},
		{0, 2, 2, api.ErrArg}, {1, 2, 2, api.ErrArg},
		{1, 0, 2, api.ErrTwice}, {2*api.MaxEdges - 1, 0, 2, api.ErrTwice},
		{0, 0, 2, api.ErrFull}, {2, 0, 1, api.ErrFull}, {api.MaxId, 0, 1, api.ErrFull},
	})
}

func TestAllTheEdgesThatThereMayBe(t *testing.T) {
	n := api.MaxNodes
	edges := full(n, 0)
	g := grown(t, n, edges...)
	holds(t, g, n, edges...)
	isErr(t, "one too many", g.Add(1, 0, 1), api.ErrFull)
	drop(t, g, edges[50].Id)
	add(t, g, 1, 3, 0)
	want := slices.Insert(slices.Delete(slices.Clone(edges), 50, 51), 1, api.Edge{Id: 1, A: 0, B: 3})
	holds(t, g, n, want...)
	isErr(t, "one too many again", g.Add(edges[50].Id, 0, 1), api.ErrFull)
	holds(t, g, n, want...)
}

func TestDropIsGone(t *testing.T) {
	edges := []api.Edge{{Id: 2, A: 0, B: 1}, {Id: 3, A: 1, B: 2}, {Id: 7, A: 0, B: 2}}
	g := grown(t, 3, edges...)
	drop(t, g, 3)
	holds(t, g, 3, edges[0], edges[2])
	isErr(t, "Drop twice", g.Drop(3), api.ErrMissing)
	if e, err := g.Edge(3); e != (api.Edge{}) || api.Tell(err) != api.ErrMissing {
		t.Errorf("Edge that is gone: %v, %v", e, err)
	}
	add(t, g, 3, 2, 0)
	holds(t, g, 3, edges[0], api.Edge{Id: 3, A: 0, B: 2}, edges[2])
	for _, id := range []int{7, 2, 3} {
		drop(t, g, id)
	}
	holds(t, g, 3)
}

func TestNoSuchEdge(t *testing.T) {
	edges := []api.Edge{{Id: 2, A: 0, B: 1}, {Id: 7, A: 0, B: 2}}
	for _, edges := range [][]api.Edge{nil, edges} {
		g := grown(t, 3, edges...)
		for _, id := range []int{-1, math.MinInt, 0, 1, 3, 6, 8, api.MaxId, api.MaxId + 1, math.MaxInt} {
			isErr(t, fmt.Sprintf("Drop(%d)", id), g.Drop(id), api.ErrMissing)
			e, err := g.Edge(id)
			isErr(t, fmt.Sprintf("Edge(%d)", id), err, api.ErrMissing)
			if e != (api.Edge{}) {
				t.Errorf("Edge(%d): %v beside an error", id, e)
			}
			holds(t, g, 3, edges...)
		}
	}
}

func TestAtNoSuchNode(t *testing.T) {
	for _, n := range []int{0, 2, api.MaxNodes} {
		g := made(t, n)
		if n > 0 {
			add(t, g, 1, 0, n-1)
		}
		for _, x := range []int{-1, math.MinInt, n, n + 1, math.MaxInt} {
			l, err := g.At(x)
			isErr(t, fmt.Sprintf("At(%d)", x), err, api.ErrRange)
			if l != nil {
				t.Errorf("At(%d): %v beside an error", x, l)
			}
		}
	}
}

func TestWithout(t *testing.T) {
	all := []api.Edge{{Id: 0, A: 0, B: 1}, {Id: 2, A: 1, B: 2}, {Id: 4, A: 1, B: 2}, {Id: 6, A: 2, B: 3}, {Id: 8, A: 0, B: 3}}
	for _, c := range []struct {
		edges, nodes []int
		stay         []int
	}{
		{nil, nil, []int{0, 1, 2, 3, 4}},
		{[]int{}, []int{}, []int{0, 1, 2, 3, 4}},
		{[]int{2}, nil, []int{0, 2, 3, 4}},
		{[]int{8, 0, 8}, nil, []int{1, 2, 3}},
		{nil, []int{1}, []int{3, 4}},
		{nil, []int{3, 3}, []int{0, 1, 2}},
		{nil, []int{0, 2}, nil},
		{nil, []int{4}, []int{0, 1, 2, 3, 4}},
		{[]int{4}, []int{0}, []int{1, 3}},
		{[]int{0, 2, 4, 6, 8}, nil, nil},
		// Numbers of which there is none take nothing away, nor does an edge's number among the nodes.
		{[]int{-1, 1, 3, math.MaxInt, math.MinInt}, []int{-1, 5, 6, 8, math.MaxInt, math.MinInt}, []int{0, 1, 2, 3, 4}},
	} {
		g := grown(t, 5, all...)
		var want []api.Edge
		for _, i := range c.stay {
			want = append(want, all[i])
		}
		holds(t, g.Without(c.edges, c.nodes), 5, want...)
		holds(t, g, 5, all...)
	}
	holds(t, made(t, 0).Without([]int{0}, []int{0}), 0)
}

// TestWithoutIsApart: neither of the two graphs sees what is done to the other one (P4).
func TestWithoutIsApart(t *testing.T) {
	one, two, three := api.Edge{Id: 1, A: 0, B: 1}, api.Edge{Id: 2, A: 1, B: 2}, api.Edge{Id: 3, A: 0, B: 2}
	g := grown(t, 3, one, two, three)
	h := g.Without(nil, nil)
	drop(t, g, 1)
	holds(t, h, 3, one, two, three)
	drop(t, h, 3)
	add(t, h, 0, 2, 1)
	holds(t, g, 3, two, three)
	holds(t, h, 3, api.Edge{Id: 0, A: 1, B: 2}, one, two)
}

// TestWithoutKeepsNoList: what is handed in is not written into, nor what stands behind its length, nor kept (P4).
func TestWithoutKeepsNoList(t *testing.T) {
	all := []api.Edge{{Id: 1, A: 0, B: 1}, {Id: 2, A: 1, B: 2}, {Id: 3, A: 0, B: 3}}
	g := grown(t, 4, all...)
	edges, nodes := []int{3, 1, 2, 2}, []int{3, 2, 1, 0}
	h := g.Without(edges[:2], nodes[:1])
	if fmt.Sprint(edges, nodes) != "[3 1 2 2] [3 2 1 0]" {
		t.Errorf("lists that were handed in: %v, %v", edges, nodes)
	}
	holds(t, h, 4, all[1])
	edges[0], nodes[0] = 2, 1
	holds(t, h, 4, all[1])
	holds(t, g, 4, all...)
}

// spoil writes into all that a list has, behind its length, too.
func spoil(l []api.Edge) {
	l = l[:cap(l)]
	for i := range l {
		l[i] = api.Edge{Id: -1, A: -1, B: -1}
	}
}

// TestListsAreTheCallers: what came out may be written into and grown: neither the graph nor another list sees that (P4).
func TestListsAreTheCallers(t *testing.T) {
	all := []api.Edge{{Id: 1, A: 0, B: 1}, {Id: 2, A: 0, B: 2}, {Id: 3, A: 0, B: 1}}
	g := grown(t, 3, all...)
	before := g.Edges()
	spoil(g.Edges())
	at, err := g.At(0)
	if err != nil {
		t.Fatal(err)
	}
	spoil(at)
	spoil(g.Without(nil, nil).Edges())
	holds(t, g, 3, all...)
	drop(t, g, 1)
	add(t, g, 0, 1, 2)
	if !slices.Equal(before, all) {
		t.Errorf("a list that was answered is now %v", before)
	}
}

func TestGraphsAreApart(t *testing.T) {
	g, h := made(t, 3), made(t, 3)
	add(t, g, 1, 0, 1)
	holds(t, h, 3)
	add(t, h, 1, 1, 2)
	holds(t, g, 3, api.Edge{Id: 1, A: 0, B: 1})
}

func TestOther(t *testing.T) {
	for _, c := range []struct {
		e       api.Edge
		x, want int
	}{
		{api.Edge{Id: 1, A: 2, B: 5}, 2, 5},
		{api.Edge{Id: 1, A: 2, B: 5}, 5, 2},
		{api.Edge{Id: 0, A: 0, B: 39}, 0, 39},
		{api.Edge{Id: 0, A: 0, B: 39}, 39, 0},
		// A node that is no end, and edges that no graph has.
		{api.Edge{Id: 1, A: 2, B: 5}, 1, 2},
		{api.Edge{Id: 1, A: 2, B: 5}, math.MinInt, 2},
		{api.Edge{Id: 1, A: 7, B: -3}, -3, 7},
		{api.Edge{Id: 1, A: 7, B: -3}, 7, -3},
		{api.Edge{Id: 1, A: 4, B: 4}, 4, 4},
	} {
		if got := graph.Other(c.e, c.x); got != c.want {
			t.Errorf("Other(%v, %d): %d, want %d", c.e, c.x, got, c.want)
		}
	}
}

// TestAgainstAMap: a long run of Add, Drop and Without tells what a map of edges tells.
func TestAgainstAMap(t *testing.T) {
	const n = 6
	g, held := made(t, n), map[int]api.Edge{}
	for i, seed := 0, 1; i < 3000; i++ {
		seed = seed * 48271 % (1<<31 - 1)
		id, a, b := seed%90, seed/90%n, seed/90/n%n
		_, there := held[id]
		switch {
		case seed/7%3 == 0 && there:
			drop(t, g, id)
			delete(held, id)
		case seed/7%3 == 0:
			isErr(t, "Drop", g.Drop(id), api.ErrMissing)
		case a == b:
			isErr(t, "Add", g.Add(id, a, b), api.ErrArg)
		case there:
			isErr(t, "Add", g.Add(id, a, b), api.ErrTwice)
		default:
			add(t, g, id, a, b)
			held[id] = api.Edge{Id: id, A: min(a, b), B: max(a, b)}
		}
		holds(t, g, n, rising(held, func(api.Edge) bool { return true })...)
		holds(t, g.Without([]int{id, 3}, []int{b}), n, rising(held, func(e api.Edge) bool {
			return e.Id != id && e.Id != 3 && e.A != b && e.B != b
		})...)
	}
}

// rising are the edges of a map that fit, by their numbers.
func rising(held map[int]api.Edge, fit func(api.Edge) bool) []api.Edge {
	var edges []api.Edge
	for _, e := range held {
		if fit(e) {
			edges = append(edges, e)
		}
	}
	slices.SortFunc(edges, func(x, y api.Edge) int { return x.Id - y.Id })
	return edges
}
