package block_test

import (
	"fmt"
	"math"
	"slices"
	"testing"

	"isthmus/api"
	"isthmus/block"
	"isthmus/graph"
	"isthmus/plain"
)

// made is a graph with those edges, put in one by one.
func made(t *testing.T, n int, edges ...api.Edge) *graph.Graph {
	t.Helper()
	g, err := graph.New(n)
	if err != nil {
		t.Fatal(err)
	}
	for _, e := range edges {
		if err := g.Add(e.Id, e.A, e.B); err != nil {
			t.Fatalf("graph: Add(%v): %v", e, err)
		}
	}
	return g
}

// of are the blocks of a graph with those edges.
func of(t *testing.T, n int, edges ...api.Edge) *block.Blocks {
	t.Helper()
	b := block.Of(made(t, n, edges...))
	if b == nil {
		t.Fatalf("Of %d nodes, %v: nil", n, edges)
	}
	return b
}

// tells holds all that is told against the blocks and the nodes that part.
func tells(t *testing.T, b *block.Blocks, parts [][]int, cuts []int) {
	t.Helper()
	if got := b.Parts(); !slices.EqualFunc(got, parts, slices.Equal[[]int]) {
		t.Errorf("Parts: %v, want %v", got, parts)
	}
	if got := b.Cuts(); !slices.Equal(got, cuts) {
		t.Errorf("Cuts: %v, want %v", got, cuts)
	}
	for _, part := range parts {
		for _, x := range part {
			tellsOf(t, b, x, part, parts)
		}
	}
}

// tellsOf asks Same of an edge and each.
func tellsOf(t *testing.T, b *block.Blocks, x int, part []int, parts [][]int) {
	t.Helper()
	for _, y := range slices.Concat(parts...) {
		if got, err := b.Same(x, y); err != nil || got != slices.Contains(part, y) {
			t.Errorf("Same(%d, %d): %v, %v, want %v", x, y, got, err, slices.Contains(part, y))
		}
	}
}

// together says by the document's words whether edges lead from one node to another one.
func together(edges []api.Edge, x, y int) bool {
	var reached [api.MaxNodes]bool
	reached[x] = true
	for grew := true; grew; {
		grew = false
		for _, e := range edges {
			if reached[e.A] != reached[e.B] {
				reached[e.A], reached[e.B] = true, true
				grew = true
			}
		}
	}
	return reached[y]
}

// parts says by the document's words whether two other nodes are not together without all edges of one that were.
func parts(n int, edges []api.Edge, x int) bool {
	rest := slices.DeleteFunc(slices.Clone(edges), func(e api.Edge) bool { return e.A == x || e.B == x })
	for y := range n {
		for z := range y {
			if y != x && z != x && together(edges, y, z) && !together(rest, y, z) {
				return true
			}
		}
	}
	return false
}

// ringed says by the document's words whether some ring has both edges: each row of edges from the one's end B to its A is tried, without a node twice.
func ringed(edges []api.Edge, one, other api.Edge) bool {
	var been [api.MaxNodes]bool
	var from func(x int, met bool) bool
	from = func(x int, met bool) bool {
		if x == one.A {
			return met
		}
		been[x] = true
		defer func() { been[x] = false }()
		for _, e := range edges {
			if e.Id == one.Id || e.A != x && e.B != x {
				continue
			}
			if next := e.A + e.B - x; !been[next] && from(next, met || e.Id == other.Id) {
				return true
			}
		}
		return false
	}
	return from(one.B, false)
}

// holds holds all that is told of a small graph against the document's words.
func holds(t *testing.T, b *block.Blocks, n int, edges []api.Edge) {
	t.Helper()
	sorted := slices.SortedFunc(slices.Values(edges), func(e, f api.Edge) int { return e.Id - f.Id })
	var blocks [][]int
	for _, e := range sorted {
		var part []int
		for _, f := range sorted {
			if e == f || ringed(edges, e, f) {
				part = append(part, f.Id)
			}
		}
		if part[0] == e.Id {
			blocks = append(blocks, part)
		}
	}
	var cuts []int
	for x := range n {
		if parts(n, edges, x) {
			cuts = append(cuts, x)
		}
	}
	tells(t, b, blocks, cuts)
	if t.Failed() {
		t.Fatalf("that was of %d nodes and the edges %v", n, edges)
	}
}

// path are the edges of a row of k nodes from first on, with numbers from id on.
func path(id, first, k int) []api.Edge {
	var edges []api.Edge
	for i := range k - 1 {
		edges = append(edges, api.Edge{Id: id + i, A: first + i, B: first + i + 1})
	}
	return edges
}

// ring are the edges of a ring of k nodes from first on, with numbers from id on.
func ring(id, first, k int) []api.Edge {
	return append(path(id, first, k), api.Edge{Id: id + k - 1, A: first, B: first + k - 1})
}

func TestNoNodes(t *testing.T) {
	tells(t, of(t, 0), nil, nil)
}

func TestNoEdges(t *testing.T) {
	for n := 1; n <= api.MaxNodes; n++ {
		tells(t, of(t, n), nil, nil)
	}
}

// TestTheDocumentsExample: two rings of three with node 2 in common are two blocks; node 2 parts.
func TestTheDocumentsExample(t *testing.T) {
	b := of(t, 5, append(ring(0, 0, 3), ring(3, 2, 3)...)...)
	tells(t, b, [][]int{{0, 1, 2}, {3, 4, 5}}, []int{2})
}

// TestEdgeThatIsItsOwnBlock: no ring has it; its ends part, if there is more on both sides of them.
func TestEdgeThatIsItsOwnBlock(t *testing.T) {
	tells(t, of(t, 2, api.Edge{Id: 6, A: 0, B: 1}), [][]int{{6}}, nil)
	tells(t, of(t, 5, path(3, 0, 5)...), [][]int{{3}, {4}, {5}, {6}}, []int{1, 2, 3})
	// Between two rings.
	edges := append(append(ring(10, 0, 3), ring(0, 3, 3)...), api.Edge{Id: 5, A: 1, B: 4})
	tells(t, of(t, 6, edges...), [][]int{{0, 1, 2}, {5}, {10, 11, 12}}, []int{1, 4})
}

func TestStar(t *testing.T) {
	var edges []api.Edge
	for i := range 5 {
		edges = append(edges, api.Edge{Id: 9 - i, A: 3, B: (4 + i) % 6})
	}
	tells(t, of(t, 6, edges...), [][]int{{5}, {6}, {7}, {8}, {9}}, []int{3})
}

// TestSameEnds: two edges that have the same ends are a ring, and so are more.
func TestSameEnds(t *testing.T) {
	edges := []api.Edge{{Id: 7, A: 0, B: 1}, {Id: 2, A: 0, B: 1}, {Id: 4, A: 0, B: 1}}
	tells(t, of(t, 2, edges[:2]...), [][]int{{2, 7}}, nil)
	tells(t, of(t, 2, edges...), [][]int{{2, 4, 7}}, nil)
	// A row of them: each node amid it parts, and those at its ends do not.
	edges = append(edges, api.Edge{Id: 5, A: 1, B: 2}, api.Edge{Id: 1, A: 1, B: 2}, api.Edge{Id: 3, A: 2, B: 3})
	tells(t, of(t, 4, edges...), [][]int{{1, 5}, {2, 4, 7}, {3}}, []int{1, 2})
	// One of a ring's edges, twice: it is of the ring's block.
	edges = append(ring(0, 0, 4), api.Edge{Id: 9, A: 1, B: 2})
	tells(t, of(t, 4, edges...), [][]int{{0, 1, 2, 3, 9}}, nil)
}

func TestOneRing(t *testing.T) {
	for k := 2; k <= 8; k++ {
		want := make([]int, k)
		for i := range want {
			want[i] = 20 + i
		}
		tells(t, of(t, 9, ring(20, 1, k)...), [][]int{want}, nil)
	}
}

// TestRingsThatShareOneNode: each is a block, and the node they share parts, once.
func TestRingsThatShareOneNode(t *testing.T) {
	edges := []api.Edge{
		{Id: 1, A: 0, B: 4}, {Id: 5, A: 0, B: 1}, {Id: 9, A: 1, B: 4},
		{Id: 2, A: 2, B: 4}, {Id: 6, A: 2, B: 3}, {Id: 10, A: 3, B: 4},
		{Id: 3, A: 4, B: 5}, {Id: 7, A: 4, B: 5},
		{Id: 4, A: 4, B: 6}, {Id: 8, A: 6, B: 7}, {Id: 11, A: 7, B: 8}, {Id: 0, A: 4, B: 8},
	}
	tells(t, of(t, 9, edges...), [][]int{{0, 4, 8, 11}, {1, 5, 9}, {2, 6, 10}, {3, 7}}, []int{4})
	// A ring of rings: each shares a node with the next one, and the last one with the first one, so that all are one block.
	edges = nil
	for i := range 4 {
		a, b := 2*i, (2*i+2)%8
		edges = append(edges, api.Edge{Id: 3 * i, A: a, B: b}, api.Edge{Id: 3*i + 1, A: a, B: 2*i + 1}, api.Edge{Id: 3*i + 2, A: 2*i + 1, B: b})
	}
	tells(t, of(t, 8, edges...), [][]int{{0, 1, 2, 3, 4, 5, 6, 7, 8, 9, 10, 11}}, nil)
	// Without the last one they are a row.
	tells(t, of(t, 8, edges[:9]...), [][]int{{0, 1, 2}, {3, 4, 5}, {6, 7, 8}}, []int{2, 4})
}

// TestRingsThatShareMore: rings with two nodes in common, or an edge, are one block.
func TestRingsThatShareMore(t *testing.T) {
	across := append(ring(2, 0, 6), api.Edge{Id: 0, A: 1, B: 4})
	tells(t, of(t, 6, across...), [][]int{{0, 2, 3, 4, 5, 6, 7}}, nil)
	// Three ways between two nodes.
	ways := []api.Edge{
		{Id: 1, A: 0, B: 1}, {Id: 2, A: 1, B: 4}, {Id: 3, A: 0, B: 2}, {Id: 4, A: 2, B: 4}, {Id: 5, A: 0, B: 3}, {Id: 6, A: 3, B: 4},
	}
	tells(t, of(t, 5, ways...), [][]int{{1, 2, 3, 4, 5, 6}}, nil)
}

// TestSeveralParts: what is apart is of no block in common, and is parted by nothing.
func TestSeveralParts(t *testing.T) {
	edges := append(append(ring(30, 0, 3), ring(10, 4, 4)...), path(20, 8, 3)...)
	edges = append(edges, api.Edge{Id: 0, A: 11, B: 12}, api.Edge{Id: 40, A: 11, B: 12}, api.Edge{Id: 25, A: 2, B: 13})
	want := [][]int{{0, 40}, {10, 11, 12, 13}, {20}, {21}, {25}, {30, 31, 32}}
	tells(t, of(t, 15, edges...), want, []int{2, 9})
}

// TestNodeThatPartsNone: one without edges, one with a single neighbour, one whose neighbours stay together.
func TestNodeThatPartsNone(t *testing.T) {
	for _, c := range []struct {
		edges []api.Edge
		cuts  []int
	}{
		{[]api.Edge{{Id: 0, A: 1, B: 2}}, nil},
		{[]api.Edge{{Id: 0, A: 1, B: 2}, {Id: 1, A: 1, B: 2}}, nil},
		{[]api.Edge{{Id: 0, A: 1, B: 2}, {Id: 1, A: 1, B: 3}, {Id: 2, A: 2, B: 3}}, nil},
		{[]api.Edge{{Id: 0, A: 1, B: 2}, {Id: 1, A: 1, B: 3}}, []int{1}},
		{[]api.Edge{{Id: 0, A: 1, B: 2}, {Id: 1, A: 3, B: 4}}, nil},
	} {
		if got := of(t, 5, c.edges...).Cuts(); !slices.Equal(got, c.cuts) {
			t.Errorf("Cuts of %v: %v, want %v", c.edges, got, c.cuts)
		}
	}
}

// TestPartsByTheirNumbers: the order hangs on the edges' numbers alone, not on their nodes.
func TestPartsByTheirNumbers(t *testing.T) {
	edges := []api.Edge{
		{Id: api.MaxId, A: 0, B: 1}, {Id: 100, A: 1, B: 2}, {Id: 50, A: 0, B: 2},
		{Id: 99, A: 2, B: 3}, {Id: 0, A: 3, B: 4}, {Id: 101, A: 2, B: 4},
		{Id: 49, A: 4, B: 5}, {Id: api.MaxId - 1, A: 5, B: 6},
	}
	want := [][]int{{0, 99, 101}, {49}, {50, 100, api.MaxId}, {api.MaxId - 1}}
	tells(t, of(t, 7, edges...), want, []int{2, 4, 5})
}

// orders calls for each order of the edges.
func orders(edges []api.Edge, at int, call func([]api.Edge)) {
	if at == len(edges) {
		call(edges)
		return
	}
	for i := at; i < len(edges); i++ {
		edges[at], edges[i] = edges[i], edges[at]
		orders(edges, at+1, call)
		edges[at], edges[i] = edges[i], edges[at]
	}
}

// TestHowItGrewIsNotSeen: the same edges, in whichever order, and with others that came and went.
func TestHowItGrewIsNotSeen(t *testing.T) {
	edges := append(append(ring(7, 1, 3), ring(2, 3, 2)...), api.Edge{Id: 5, A: 0, B: 2})
	orders(edges, 0, func(edges []api.Edge) {
		tells(t, of(t, 5, edges...), [][]int{{2, 3}, {5}, {7, 8, 9}}, []int{2, 3})
	})
	g := made(t, 5, append(edges, api.Edge{Id: 1, A: 0, B: 4}, api.Edge{Id: 6, A: 1, B: 4})...)
	tells(t, block.Of(g), [][]int{{1, 2, 3, 5, 6, 7, 8, 9}}, nil)
	for _, id := range []int{1, 6} {
		if err := g.Drop(id); err != nil {
			t.Fatal(err)
		}
	}
	tells(t, block.Of(g), [][]int{{2, 3}, {5}, {7, 8, 9}}, []int{2, 3})
}

// TestNumbersAreNotNodes: the same graph, with any of the numbers at any of the edges.
func TestNumbersAreNotNodes(t *testing.T) {
	edges := []api.Edge{{A: 0, B: 1}, {A: 1, B: 2}, {A: 0, B: 2}, {A: 2, B: 3}, {A: 3, B: 4}, {A: 3, B: 4}}
	numbers := []api.Edge{{Id: 0}, {Id: 1}, {Id: 2}, {Id: 3}, {Id: 4}, {Id: api.MaxId}}
	orders(numbers, 0, func(numbers []api.Edge) {
		for i := range edges {
			edges[i].Id = numbers[i].Id
		}
		holds(t, of(t, 5, edges...), 5, edges)
	})
}

func TestSame(t *testing.T) {
	b := of(t, 5, append(ring(0, 0, 3), ring(3, 2, 3)...)...)
	for _, c := range []struct {
		x, y int
		want bool
	}{{0, 0, true}, {5, 5, true}, {0, 2, true}, {2, 0, true}, {3, 5, true}, {0, 3, false}, {3, 0, false}, {5, 2, false}} {
		if got, err := b.Same(c.x, c.y); err != nil || got != c.want {
			t.Errorf("Same(%d, %d): %v, %v, want %v", c.x, c.y, got, err, c.want)
		}
	}
}

// missing asks Same, which must answer ErrMissing without a place (P3), and nothing beside it (P2).
func missing(t *testing.T, b *block.Blocks, x, y int) {
	t.Helper()
	same, err := b.Same(x, y)
	if e, bare := plain.Bare(err); same || e != api.ErrMissing || !bare {
		t.Errorf("Same(%d, %d): %v, %v, bare %v, want ErrMissing without a place", x, y, same, err, bare)
	}
}

func TestSameMissing(t *testing.T) {
	strange := []int{-1, 0, 3, 7, 60, api.MaxId, api.MaxId + 1, math.MaxInt, math.MinInt}
	there := append(ring(4, 0, 3), api.Edge{Id: 50, A: 2, B: 3})
	b := of(t, 8, there...)
	none := of(t, 8)
	for _, x := range strange {
		for _, e := range there {
			missing(t, b, x, e.Id)
			missing(t, b, e.Id, x)
		}
		for _, y := range strange {
			missing(t, b, x, y)
			missing(t, none, x, y)
		}
	}
	missing(t, of(t, 0), 0, 0)
	tells(t, b, [][]int{{4, 5, 6}, {50}}, []int{2})
}

func TestSameOfAnEdgeThatWent(t *testing.T) {
	g := made(t, 3, ring(0, 0, 3)...)
	if err := g.Drop(1); err != nil {
		t.Fatal(err)
	}
	b := block.Of(g)
	missing(t, b, 1, 0)
	missing(t, b, 2, 1)
	tells(t, b, [][]int{{0}, {2}}, []int{0})
}

// TestOfIsApart: what is known hangs on the edges that the graph had (P4), and the graph stays as it was.
func TestOfIsApart(t *testing.T) {
	g := made(t, 5, append(ring(0, 0, 3), api.Edge{Id: 5, A: 2, B: 3})...)
	before := g.Edges()
	b := block.Of(g)
	if got := g.Edges(); !slices.Equal(got, before) || g.Nodes() != 5 {
		t.Errorf("the graph has now %v, had %v", got, before)
	}
	if err := g.Drop(1); err != nil {
		t.Fatal(err)
	}
	if err := g.Add(6, 3, 0); err != nil {
		t.Fatal(err)
	}
	tells(t, b, [][]int{{0, 1, 2}, {5}}, []int{2})
	missing(t, b, 6, 0)
	tells(t, block.Of(g), [][]int{{0}, {2, 5, 6}}, []int{0})
	tells(t, b, [][]int{{0, 1, 2}, {5}}, []int{2})
}

// spoil writes into all that a list has, behind its length, too.
func spoil(l []int) {
	l = l[:cap(l)]
	for i := range l {
		l[i] = -7
	}
}

// TestListsAreTheCallers: what came out may be written into and grown: neither what is known nor another list sees that (P4).
func TestListsAreTheCallers(t *testing.T) {
	want, cuts := [][]int{{0, 1, 2}, {3, 4, 5}, {6, 7}, {8}}, []int{2, 4, 5}
	edges := append(append(ring(0, 0, 3), ring(3, 2, 3)...), append(ring(6, 4, 2), api.Edge{Id: 8, A: 5, B: 6})...)
	b := of(t, 7, edges...)
	kept := b.Cuts()
	spoil(b.Cuts())
	tells(t, b, want, cuts)
	for i := range want {
		got, again := b.Parts(), b.Parts()
		spoil(got[i])
		if fmt.Sprint(again) != fmt.Sprint(want) {
			t.Errorf("a list wrote into another answer: %v", again)
		}
		got[i] = again[i]
		if fmt.Sprint(got) != fmt.Sprint(want) {
			t.Errorf("a list wrote into another one: %v", got)
		}
		clear(got[:cap(got)])
		tells(t, b, want, cuts)
	}
	if !slices.Equal(kept, cuts) {
		t.Errorf("a list that was answered is now %v", kept)
	}
}

// TestAllThatThereMayBe: as many nodes and edges as a graph may have.
func TestAllThatThereMayBe(t *testing.T) {
	n := api.MaxNodes
	edges := append(append(path(0, 0, n), path(n, 0, n)...), path(2*n, 0, n)...)
	var want [][]int
	var cuts []int
	for i := range n - 1 {
		want = append(want, []int{i, n + i, 2*n + i})
		if i > 0 {
			cuts = append(cuts, i)
		}
	}
	tells(t, of(t, n, edges...), want, cuts)
	// Closed to a ring it is one block.
	for i := range 3 {
		edges = append(edges, api.Edge{Id: (i+1)*n - 1, A: 0, B: n - 1})
	}
	all := make([]int, api.MaxEdges)
	for i := range all {
		all[i] = i
	}
	tells(t, of(t, n, edges...), [][]int{all}, nil)
}

// TestBlocksMeetAtNodesThatPart: a node's edges are of several blocks just if it parts; two blocks have at most one node in common.
func TestBlocksMeetAtNodesThatPart(t *testing.T) {
	drawn(60, 20, 40, func(n int, edges []api.Edge) {
		b := of(t, n, edges...)
		var ends [][api.MaxNodes]int
		var at [api.MaxNodes]int
		for i, part := range b.Parts() {
			ends = append(ends, [api.MaxNodes]int{})
			for _, e := range edges {
				if slices.Contains(part, e.Id) {
					ends[i][e.A], ends[i][e.B] = 1, 1
				}
			}
			meet(t, ends, edges)
			for x := range n {
				at[x] += ends[i][x]
			}
		}
		for x := range n {
			if slices.Contains(b.Cuts(), x) != (at[x] > 1) {
				t.Errorf("node %d of %v: in %d blocks, Cuts %v", x, edges, at[x], b.Cuts())
			}
		}
	})
}

// meet holds the nodes of the last block against those of each ahead of it.
func meet(t *testing.T, ends [][api.MaxNodes]int, edges []api.Edge) {
	t.Helper()
	last := len(ends) - 1
	for i := range last {
		common := 0
		for x := range ends[i] {
			common += ends[i][x] * ends[last][x]
		}
		if common > 1 {
			t.Errorf("blocks %d and %d of %v have %d nodes in common", i, last, edges, common)
		}
	}
}

// drawn calls for so many graphs that look drawn, the same each time: of up to so many nodes and edges.
func drawn(times, nodes, most int, call func(n int, edges []api.Edge)) {
	seed := 1
	next := func(below int) int {
		seed = seed * 48271 % (1<<31 - 1)
		return seed % below
	}
	for range times {
		n := 2 + next(nodes-1)
		var edges []api.Edge
		for i := range next(most) + 1 {
			x, y := next(n), next(n)
			if x != y {
				edges = append(edges, api.Edge{Id: i * 37 % 101, A: min(x, y), B: max(x, y)})
			}
		}
		call(n, edges)
	}
}

// TestAgainstTheWords: graphs of many kinds tell what the document's words tell.
func TestAgainstTheWords(t *testing.T) {
	drawn(400, 9, 14, func(n int, edges []api.Edge) {
		holds(t, of(t, n, edges...), n, edges)
	})
}

// TestSmallGraphs: all graphs of four nodes with at most two edges between any two of them.
func TestSmallGraphs(t *testing.T) {
	for which := range 729 {
		var edges []api.Edge
		rest := which
		for x := range 4 {
			for y := range x {
				for range rest % 3 {
					edges = append(edges, api.Edge{Id: len(edges) * 5 % 13, A: y, B: x})
				}
				rest /= 3
			}
		}
		holds(t, of(t, 4, edges...), 4, edges)
	}
}
