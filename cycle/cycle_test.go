package cycle_test

import (
	"fmt"
	"math"
	"slices"
	"testing"

	"isthmus/api"
	"isthmus/block"
	"isthmus/bridge"
	"isthmus/cycle"
	"isthmus/graph"
	"isthmus/plain"
)

// made is a graph with those edges, put in one by one.
func made(t *testing.T, n int, edges ...api.Edge) *graph.Graph {
	t.Helper()
	g, err := graph.New(n)
	if err != nil {
		t.Fatal(err)
	}
	for _, e := range edges {
		if err := g.Add(e.Id, e.A, e.B); err != nil {
			t.Fatalf("graph: Add(%v): %v", e, err)
		}
	}
	return g
}

// of is the cover of a graph with those edges.
func of(t *testing.T, n int, edges ...api.Edge) *cycle.Cover {
	t.Helper()
	c := cycle.Of(made(t, n, edges...))
	if c == nil {
		t.Fatalf("Of %d nodes, %v: nil", n, edges)
	}
	return c
}

// all is what a cover tells of a whole graph.
type all struct {
	rest    int
	bridges []int
	pairs   []api.Pair
	thrice  [][]int
}

// tells holds all that is told of the whole against what is wanted.
func tells(t *testing.T, c *cycle.Cover, want all) {
	t.Helper()
	if got := c.Rest(); got != want.rest {
		t.Errorf("Rest: %d, want %d", got, want.rest)
	}
	if got := c.Bridges(); !slices.Equal(got, want.bridges) {
		t.Errorf("Bridges: %v, want %v", got, want.bridges)
	}
	if got := c.Pairs(); !slices.Equal(got, want.pairs) {
		t.Errorf("Pairs: %v, want %v", got, want.pairs)
	}
	if got := c.Thrice(); !slices.EqualFunc(got, want.thrice, slices.Equal[[]int]) {
		t.Errorf("Thrice: %v, want %v", got, want.thrice)
	}
}

// covers holds Covered and Alike against the rings (by the numbers of their others) that go round each edge.
func covers(t *testing.T, c *cycle.Cover, round map[int][]int) {
	t.Helper()
	for x, one := range round {
		if got, err := c.Covered(x); err != nil || got != len(one) {
			t.Errorf("Covered(%d): %d, %v, want %d", x, got, err, len(one))
		}
		for y, other := range round {
			if got, err := c.Alike(x, y); err != nil || got != slices.Equal(one, other) {
				t.Errorf("Alike(%d, %d): %v, %v, want %v", x, y, got, err, slices.Equal(one, other))
			}
		}
	}
}

// together says by the document's words whether edges lead from one node to another one.
func together(edges []api.Edge, x, y int) bool {
	var reached [api.MaxNodes]bool
	reached[x] = true
	for grew := true; grew; {
		grew = false
		for _, e := range edges {
			if reached[e.A] != reached[e.B] {
				reached[e.A], reached[e.B] = true, true
				grew = true
			}
		}
	}
	return reached[y]
}

// less are the edges without those of some numbers.
func less(edges []api.Edge, ids ...int) []api.Edge {
	return slices.DeleteFunc(slices.Clone(edges), func(e api.Edge) bool { return slices.Contains(ids, e.Id) })
}

// sorted are the edges by their numbers.
func sorted(edges []api.Edge) []api.Edge {
	return slices.SortedFunc(slices.Values(edges), func(e, f api.Edge) int { return e.Id - f.Id })
}

// way are the numbers of the edges of a tree from one node to another one, and whether there are such.
func way(tree []api.Edge, from, to int) ([]int, bool) {
	if from == to {
		return nil, true
	}
	for _, e := range tree {
		if e.A != from && e.B != from {
			continue
		}
		if rest, there := way(less(tree, e.Id), e.A+e.B-from, to); there {
			return append(rest, e.Id), true
		}
	}
	return nil, false
}

// rounds are by the document's words of each edge the others whose rings go round it, and how many others there are.
func rounds(edges []api.Edge) (map[int][]int, int) {
	round := map[int][]int{}
	var tree []api.Edge
	rest := 0
	for _, e := range sorted(edges) {
		round[e.Id] = nil
		if !together(tree, e.A, e.B) {
			tree = append(tree, e)
		}
	}
	for _, e := range sorted(edges) {
		if slices.Contains(tree, e) {
			continue
		}
		rest++
		ids, _ := way(tree, e.A, e.B)
		for _, id := range append(ids, e.Id) {
			round[id] = append(round[id], e.Id)
		}
	}
	return round, rest
}

// part says by the document's words whether two nodes are not together without edges of some numbers that were.
func part(n int, edges []api.Edge, ids ...int) bool {
	rest := less(edges, ids...)
	for x := range n {
		for y := range x {
			if together(edges, x, y) && !together(rest, x, y) {
				return true
			}
		}
	}
	return false
}

// stay says by the document's words whether two nodes are together, whichever two edges, or one, are taken away.
func stay(edges []api.Edge, x, y int) bool {
	if !together(edges, x, y) {
		return false
	}
	for _, e := range edges {
		for _, f := range edges {
			if !together(less(edges, e.Id, f.Id), x, y) {
				return false
			}
		}
	}
	return true
}

// words is by the document's words what is told of the whole.
func words(n int, edges []api.Edge) all {
	var want all
	var firm []int
	for _, e := range sorted(edges) {
		if part(n, edges, e.Id) {
			want.bridges = append(want.bridges, e.Id)
		} else {
			firm = append(firm, e.Id)
		}
	}
	for i, x := range firm {
		for _, y := range firm[i+1:] {
			if part(n, edges, x, y) {
				want.pairs = append(want.pairs, api.Pair{A: x, B: y})
			}
		}
	}
	for x := range n {
		var members []int
		for y := range n {
			if x == y || stay(edges, x, y) {
				members = append(members, y)
			}
		}
		if members[0] == x {
			want.thrice = append(want.thrice, members)
		}
	}
	return want
}

// holds holds all that is told of a small graph against the document's words.
func holds(t *testing.T, n int, edges []api.Edge) {
	t.Helper()
	c := of(t, n, edges...)
	want := words(n, edges)
	round, rest := rounds(edges)
	want.rest = rest
	tells(t, c, want)
	covers(t, c, round)
	if t.Failed() {
		t.Fatalf("that was of %d nodes and the edges %v", n, edges)
	}
}

// path are the edges of a row of k nodes from first on, with numbers from id on.
func path(id, first, k int) []api.Edge {
	var edges []api.Edge
	for i := range k - 1 {
		edges = append(edges, api.Edge{Id: id + i, A: first + i, B: first + i + 1})
	}
	return edges
}

// ring are the edges of a ring of k nodes from first on, with numbers from id on.
func ring(id, first, k int) []api.Edge {
	return append(path(id, first, k), api.Edge{Id: id + k - 1, A: first, B: first + k - 1})
}

// full are the edges between any two of k nodes from first on, with numbers from id on.
func full(id, first, k int) []api.Edge {
	var edges []api.Edge
	for x := range k {
		for y := range x {
			edges = append(edges, api.Edge{Id: id + len(edges), A: first + y, B: first + x})
		}
	}
	return edges
}

// twos are any two of some numbers.
func twos(ids ...int) []api.Pair {
	var pairs []api.Pair
	for i, x := range ids {
		for _, y := range ids[i+1:] {
			pairs = append(pairs, api.Pair{A: x, B: y})
		}
	}
	return pairs
}

// row are the numbers from first on, k of them.
func row(first, k int) []int {
	var numbers []int
	for i := range k {
		numbers = append(numbers, first+i)
	}
	return numbers
}

// alone are the parts of k nodes from 0 on, of one each.
func alone(k int) [][]int {
	var parts [][]int
	for x := range k {
		parts = append(parts, []int{x})
	}
	return parts
}

func TestNoNodes(t *testing.T) {
	tells(t, of(t, 0), all{})
}

func TestNoEdges(t *testing.T) {
	for n := 1; n <= api.MaxNodes; n++ {
		tells(t, of(t, n), all{thrice: alone(n)})
	}
}

// TestTheDocumentsExample: of two rings of three with node 2 in common six twos of edges part together.
func TestTheDocumentsExample(t *testing.T) {
	c := of(t, 5, append(ring(0, 0, 3), ring(3, 2, 3)...)...)
	pairs := []api.Pair{{A: 0, B: 1}, {A: 0, B: 2}, {A: 1, B: 2}, {A: 3, B: 4}, {A: 3, B: 5}, {A: 4, B: 5}}
	tells(t, c, all{rest: 2, pairs: pairs, thrice: alone(5)})
	covers(t, c, map[int][]int{0: {2}, 1: {2}, 2: {2}, 3: {5}, 4: {5}, 5: {5}})
}

// TestTree: no ring is made of it: each edge is a bridge, and the same rings, none, go round any two.
func TestTree(t *testing.T) {
	for k := 2; k <= 6; k++ {
		c := of(t, 7, path(20, 0, k)...)
		tells(t, c, all{bridges: row(20, k-1), thrice: alone(7)})
		for _, x := range row(20, k-1) {
			covers(t, c, map[int][]int{20: nil, x: nil})
		}
	}
	star := []api.Edge{{Id: 9, A: 0, B: 2}, {Id: 0, A: 1, B: 2}, {Id: 4, A: 2, B: 4}, {Id: 7, A: 2, B: 3}}
	c := of(t, 5, star...)
	tells(t, c, all{bridges: []int{0, 4, 7, 9}, thrice: alone(5)})
	covers(t, c, map[int][]int{0: nil, 4: nil, 7: nil, 9: nil})
}

// TestSameEnds: of two edges that have the same ends the lesser one is of the tree; both part together. Three of them no two part.
func TestSameEnds(t *testing.T) {
	edges := []api.Edge{{Id: 7, A: 0, B: 1}, {Id: 2, A: 0, B: 1}, {Id: 4, A: 0, B: 1}, {Id: 9, A: 0, B: 1}}
	c := of(t, 2, edges[:2]...)
	tells(t, c, all{rest: 1, pairs: twos(2, 7), thrice: alone(2)})
	covers(t, c, map[int][]int{2: {7}, 7: {7}})
	c = of(t, 2, edges[:3]...)
	tells(t, c, all{rest: 2, thrice: [][]int{{0, 1}}})
	covers(t, c, map[int][]int{2: {4, 7}, 4: {4}, 7: {7}})
	c = of(t, 2, edges...)
	tells(t, c, all{rest: 3, thrice: [][]int{{0, 1}}})
	covers(t, c, map[int][]int{2: {4, 7, 9}, 4: {4}, 7: {7}, 9: {9}})
	// A ring that has one of its edges twice, and one that has one thrice: with the way round there are three, and four, between these ends.
	c = of(t, 3, append(ring(0, 0, 3), api.Edge{Id: 5, A: 0, B: 1})...)
	tells(t, c, all{rest: 2, pairs: twos(1, 2), thrice: [][]int{{0, 1}, {2}}})
	covers(t, c, map[int][]int{0: {2, 5}, 1: {2}, 2: {2}, 5: {5}})
	c = of(t, 3, append(ring(0, 0, 3), api.Edge{Id: 5, A: 0, B: 1}, api.Edge{Id: 6, A: 0, B: 1})...)
	tells(t, c, all{rest: 3, pairs: twos(1, 2), thrice: [][]int{{0, 1}, {2}}})
	covers(t, c, map[int][]int{0: {2, 5, 6}, 1: {2}, 2: {2}, 5: {5}, 6: {6}})
}

// TestOneRing: any two of its edges part.
func TestOneRing(t *testing.T) {
	for k := 2; k <= 8; k++ {
		c := of(t, 9, ring(20, 1, k)...)
		tells(t, c, all{rest: 1, pairs: twos(row(20, k)...), thrice: alone(9)})
		for _, x := range row(20, k) {
			covers(t, c, map[int][]int{20: {20 + k - 1}, x: {20 + k - 1}})
		}
	}
}

// TestBridgeBetweenRings: no ring goes round it, and it is in no two that part, though it parts alone.
func TestBridgeBetweenRings(t *testing.T) {
	edges := append(append(ring(10, 0, 3), ring(0, 3, 3)...), api.Edge{Id: 5, A: 1, B: 4}, api.Edge{Id: 6, A: 4, B: 6})
	c := of(t, 7, edges...)
	pairs := append(twos(0, 1, 2), twos(10, 11, 12)...)
	tells(t, c, all{rest: 2, bridges: []int{5, 6}, pairs: pairs, thrice: alone(7)})
	covers(t, c, map[int][]int{0: {2}, 1: {2}, 2: {2}, 5: nil, 6: nil, 10: {12}, 11: {12}, 12: {12}})
}

// TestSeveralRounds: edges round which several rings go, and two of which none is a bridge and that do not part.
func TestSeveralRounds(t *testing.T) {
	// A ring of six with one edge across: the rings are those of 7 and 9, and both have edge 2 and 4.
	edges := []api.Edge{{Id: 1, A: 0, B: 1}, {Id: 2, A: 1, B: 2}, {Id: 4, A: 2, B: 3}, {Id: 5, A: 3, B: 4}, {Id: 6, A: 4, B: 5}, {Id: 9, A: 0, B: 5}, {Id: 7, A: 1, B: 3}}
	c := of(t, 6, edges...)
	covers(t, c, map[int][]int{1: {9}, 2: {7, 9}, 4: {7, 9}, 5: {9}, 6: {9}, 9: {9}, 7: {7}})
	pairs := []api.Pair{{A: 1, B: 5}, {A: 1, B: 6}, {A: 1, B: 9}, {A: 2, B: 4}, {A: 5, B: 6}, {A: 5, B: 9}, {A: 6, B: 9}}
	tells(t, c, all{rest: 2, pairs: pairs, thrice: [][]int{{0}, {1, 3}, {2}, {4}, {5}}})
	// Any two of four nodes: no two edges part. Edges 0, 1 and 3 are the tree.
	c = of(t, 4, full(0, 0, 4)...)
	covers(t, c, map[int][]int{0: {2, 4}, 1: {2, 5}, 3: {4, 5}, 2: {2}, 4: {4}, 5: {5}})
	tells(t, c, all{rest: 3, thrice: [][]int{{0, 1, 2, 3}}})
}

// TestAsManyRingsAreNotTheSame: as many rings, but others, go round two edges, which do not part.
func TestAsManyRingsAreNotTheSame(t *testing.T) {
	c := of(t, 4, full(0, 0, 4)...)
	for _, p := range twos(0, 1, 3) {
		one, _ := c.Covered(p.A)
		other, _ := c.Covered(p.B)
		if same, err := c.Alike(p.A, p.B); one != 2 || other != 2 || same || err != nil {
			t.Errorf("edges %d and %d: covered %d and %d times, alike %v, %v", p.A, p.B, one, other, same, err)
		}
	}
}

// TestNumbersThatDoNotRise: the tree is of the least numbers, not of those that came first.
func TestNumbersThatDoNotRise(t *testing.T) {
	edges := []api.Edge{{Id: 8, A: 0, B: 1}, {Id: 6, A: 1, B: 2}, {Id: 4, A: 0, B: 2}, {Id: 2, A: 2, B: 3}, {Id: 0, A: 1, B: 3}}
	c := of(t, 4, edges...)
	covers(t, c, map[int][]int{0: {6, 8}, 2: {6, 8}, 4: {8}, 6: {6}, 8: {8}})
	tells(t, c, all{rest: 2, pairs: []api.Pair{{A: 0, B: 2}, {A: 4, B: 8}}, thrice: [][]int{{0}, {1, 2}, {3}}})
	// The numbers the other way round make another tree, though the same edges part.
	for i := range edges {
		edges[i].Id = 8 - edges[i].Id
	}
	c = of(t, 4, edges...)
	covers(t, c, map[int][]int{0: {4}, 2: {4, 8}, 4: {4}, 6: {8}, 8: {8}})
	tells(t, c, all{rest: 2, pairs: []api.Pair{{A: 0, B: 4}, {A: 6, B: 8}}, thrice: [][]int{{0}, {1, 2}, {3}}})
	great := []api.Edge{{Id: api.MaxId, A: 0, B: 1}, {Id: api.MaxId - 1, A: 1, B: 2}, {Id: 0, A: 0, B: 2}}
	c = of(t, 3, great...)
	covers(t, c, map[int][]int{0: {api.MaxId}, api.MaxId - 1: {api.MaxId}, api.MaxId: {api.MaxId}})
	tells(t, c, all{rest: 1, pairs: twos(0, api.MaxId-1, api.MaxId), thrice: alone(3)})
}

// TestSeveralParts: each part has a tree of its own; what is apart stays so.
func TestSeveralParts(t *testing.T) {
	edges := append(append(ring(30, 0, 3), full(10, 4, 4)...), path(20, 8, 3)...)
	edges = append(edges, api.Edge{Id: 0, A: 11, B: 12}, api.Edge{Id: 40, A: 11, B: 12}, api.Edge{Id: 25, A: 2, B: 13})
	c := of(t, 15, edges...)
	pairs := append(twos(0, 40), twos(30, 31, 32)...)
	thrice := [][]int{{0}, {1}, {2}, {3}, {4, 5, 6, 7}, {8}, {9}, {10}, {11}, {12}, {13}, {14}}
	tells(t, c, all{rest: 5, bridges: []int{20, 21, 25}, pairs: pairs, thrice: thrice})
	covers(t, c, map[int][]int{0: {40}, 40: {40}, 20: nil, 21: nil, 25: nil, 10: {12, 14}, 12: {12}, 30: {32}, 31: {32}, 32: {32}})
}

// TestThrice: parts that no two edges part, held to each other by one edge, by two, and by three.
func TestThrice(t *testing.T) {
	between := []api.Edge{{Id: 20, A: 0, B: 4}, {Id: 21, A: 1, B: 5}, {Id: 22, A: 2, B: 6}}
	edges := append(full(0, 0, 4), full(6, 4, 4)...)
	apart := [][]int{{0, 1, 2, 3}, {4, 5, 6, 7}}
	tells(t, of(t, 8, edges...), all{rest: 6, thrice: apart})
	tells(t, of(t, 8, append(edges, between[:1]...)...), all{rest: 6, bridges: []int{20}, thrice: apart})
	tells(t, of(t, 8, append(edges, between[:2]...)...), all{rest: 7, pairs: twos(20, 21), thrice: apart})
	tells(t, of(t, 8, append(edges, between...)...), all{rest: 8, thrice: [][]int{row(0, 8)}})
	// No node of the part need be next to another one of it: three ways of two edges each.
	ways := []api.Edge{{Id: 1, A: 0, B: 1}, {Id: 2, A: 1, B: 4}, {Id: 3, A: 0, B: 2}, {Id: 4, A: 2, B: 4}, {Id: 5, A: 0, B: 3}, {Id: 6, A: 3, B: 4}}
	pairs := []api.Pair{{A: 1, B: 2}, {A: 3, B: 4}, {A: 5, B: 6}}
	tells(t, of(t, 5, ways...), all{rest: 2, pairs: pairs, thrice: [][]int{{0, 4}, {1}, {2}, {3}}})
}

// orders calls for each order of the edges.
func orders(edges []api.Edge, at int, call func([]api.Edge)) {
	if at == len(edges) {
		call(edges)
		return
	}
	for i := at; i < len(edges); i++ {
		edges[at], edges[i] = edges[i], edges[at]
		orders(edges, at+1, call)
		edges[at], edges[i] = edges[i], edges[at]
	}
}

// TestHowItGrewIsNotSeen: the same edges, in whichever order, and with others that came and went.
func TestHowItGrewIsNotSeen(t *testing.T) {
	edges := append(append(ring(7, 1, 3), ring(2, 3, 2)...), api.Edge{Id: 5, A: 0, B: 2})
	want := all{rest: 2, bridges: []int{5}, pairs: append(twos(2, 3), twos(7, 8, 9)...), thrice: alone(5)}
	round := map[int][]int{2: {3}, 3: {3}, 5: nil, 7: {9}, 8: {9}, 9: {9}}
	orders(edges, 0, func(edges []api.Edge) {
		c := of(t, 5, edges...)
		tells(t, c, want)
		covers(t, c, round)
	})
	g := made(t, 5, append(edges, api.Edge{Id: 1, A: 0, B: 4}, api.Edge{Id: 6, A: 1, B: 4})...)
	if got := cycle.Of(g).Rest(); got != 4 {
		t.Errorf("Rest: %d, want 4", got)
	}
	for _, id := range []int{1, 6} {
		if err := g.Drop(id); err != nil {
			t.Fatal(err)
		}
	}
	tells(t, cycle.Of(g), want)
	covers(t, cycle.Of(g), round)
}

// TestNumbersAreNotNodes: the same graph, with any of the numbers at any of the edges.
func TestNumbersAreNotNodes(t *testing.T) {
	edges := []api.Edge{{A: 0, B: 1}, {A: 1, B: 2}, {A: 0, B: 2}, {A: 0, B: 2}, {A: 2, B: 3}, {A: 1, B: 3}}
	numbers := []api.Edge{{Id: 0}, {Id: 1}, {Id: 2}, {Id: 3}, {Id: 4}, {Id: api.MaxId}}
	orders(numbers, 0, func(numbers []api.Edge) {
		for i := range edges {
			edges[i].Id = numbers[i].Id
		}
		holds(t, 5, edges)
	})
}

// missing asks Alike of two numbers, of which one is missing, or both: it must answer ErrMissing without a place (P3), and nothing beside it (P2).
func missing(t *testing.T, c *cycle.Cover, x, y int) {
	t.Helper()
	alike, err := c.Alike(x, y)
	if e, bare := plain.Bare(err); alike || e != api.ErrMissing || !bare {
		t.Errorf("Alike(%d, %d): %v, %v, bare %v, want ErrMissing without a place", x, y, alike, err, bare)
	}
}

// strange are numbers that no edge of the tests of what is missing has.
var strange = []int{-1, 0, 3, 7, 60, api.MaxId, api.MaxId + 1, math.MaxInt, math.MinInt}

func TestCoveredMissing(t *testing.T) {
	there, none, empty := of(t, 8, append(ring(4, 0, 3), api.Edge{Id: 50, A: 2, B: 3})...), of(t, 8), of(t, 0)
	for _, x := range strange {
		for _, c := range []*cycle.Cover{there, none, empty} {
			n, err := c.Covered(x)
			if e, bare := plain.Bare(err); n != 0 || e != api.ErrMissing || !bare {
				t.Errorf("Covered(%d): %d, %v, bare %v, want ErrMissing without a place", x, n, err, bare)
			}
		}
	}
}

func TestAlikeMissing(t *testing.T) {
	edges := append(ring(4, 0, 3), api.Edge{Id: 50, A: 2, B: 3})
	there, none, empty := of(t, 8, edges...), of(t, 8), of(t, 0)
	for _, x := range strange {
		for _, e := range edges {
			missing(t, there, x, e.Id)
			missing(t, there, e.Id, x)
		}
		for _, y := range strange {
			missing(t, there, x, y)
			missing(t, none, x, y)
			missing(t, empty, x, y)
		}
	}
	tells(t, there, all{rest: 1, bridges: []int{50}, pairs: twos(4, 5, 6), thrice: alone(8)})
	covers(t, there, map[int][]int{4: {6}, 5: {6}, 6: {6}, 50: nil})
}

// TestMissingOfAnEdgeThatWent: it is missing, and not a bridge round which nothing goes.
func TestMissingOfAnEdgeThatWent(t *testing.T) {
	g := made(t, 3, ring(0, 0, 3)...)
	if err := g.Drop(1); err != nil {
		t.Fatal(err)
	}
	c := cycle.Of(g)
	missing(t, c, 1, 0)
	missing(t, c, 2, 1)
	if n, err := c.Covered(1); n != 0 || api.Tell(err) != api.ErrMissing {
		t.Errorf("Covered(1): %d, %v", n, err)
	}
	tells(t, c, all{bridges: []int{0, 2}, thrice: alone(3)})
}

// TestOfIsApart: what is known hangs on the edges that the graph had (P4), and the graph stays as it was.
func TestOfIsApart(t *testing.T) {
	g := made(t, 5, append(ring(0, 0, 3), api.Edge{Id: 5, A: 2, B: 3}, api.Edge{Id: 3, A: 0, B: 1}, api.Edge{Id: 4, A: 0, B: 1})...)
	before := g.Edges()
	c := cycle.Of(g)
	if got := g.Edges(); !slices.Equal(got, before) || g.Nodes() != 5 {
		t.Errorf("the graph has now %v, had %v", got, before)
	}
	want := all{rest: 3, bridges: []int{5}, pairs: twos(1, 2), thrice: [][]int{{0, 1}, {2}, {3}, {4}}}
	tells(t, c, want)
	for _, id := range []int{1, 4} {
		if err := g.Drop(id); err != nil {
			t.Fatal(err)
		}
	}
	if err := g.Add(6, 3, 0); err != nil {
		t.Fatal(err)
	}
	tells(t, c, want)
	covers(t, c, map[int][]int{0: {2, 3, 4}, 1: {2}, 2: {2}, 3: {3}, 4: {4}, 5: nil})
	missing(t, c, 6, 0)
	tells(t, cycle.Of(g), all{rest: 2, pairs: append(twos(0, 3), twos(2, 5, 6)...), thrice: alone(5)})
	tells(t, c, want)
}

// spoil writes into all that a list has, behind its length, too.
func spoil(l []int) {
	l = l[:cap(l)]
	for i := range l {
		l[i] = -7
	}
}

// TestListsAreTheCallers: what came out may be written into and grown: neither what is known nor another list sees that (P4).
func TestListsAreTheCallers(t *testing.T) {
	edges := append(append(full(0, 0, 4), full(6, 4, 4)...), append(ring(12, 8, 3), api.Edge{Id: 15, A: 3, B: 4}, api.Edge{Id: 16, A: 8, B: 7})...)
	want := all{rest: 7, bridges: []int{15, 16}, pairs: twos(12, 13, 14), thrice: [][]int{{0, 1, 2, 3}, {4, 5, 6, 7}, {8}, {9}, {10}}}
	c := of(t, 11, edges...)
	bridges, pairs := c.Bridges(), c.Pairs()
	spoil(c.Bridges())
	tells(t, c, want)
	other := c.Pairs()
	clear(other[:cap(other)])
	tells(t, c, want)
	for i := range want.thrice {
		got, again := c.Thrice(), c.Thrice()
		spoil(got[i])
		if fmt.Sprint(again) != fmt.Sprint(want.thrice) {
			t.Errorf("a list wrote into another answer: %v", again)
		}
		got[i] = again[i]
		if fmt.Sprint(got) != fmt.Sprint(want.thrice) {
			t.Errorf("a list wrote into another one: %v", got)
		}
		clear(got[:cap(got)])
		tells(t, c, want)
	}
	if !slices.Equal(bridges, want.bridges) || !slices.Equal(pairs, want.pairs) {
		t.Errorf("lists that were answered are now %v and %v", bridges, pairs)
	}
}

// TestAllThatThereMayBe: as many nodes and edges as a graph may have, and as many rings.
func TestAllThatThereMayBe(t *testing.T) {
	n := api.MaxNodes
	one := ring(0, 0, n)
	tells(t, of(t, n, one...), all{rest: 1, pairs: twos(row(0, n)...), thrice: alone(n)})
	// Thrice that ring: no two part.
	edges := append(append(one, ring(n, 0, n)...), ring(2*n, 0, n)...)
	c := of(t, n, edges...)
	tells(t, c, all{rest: api.MaxEdges - n + 1, thrice: [][]int{row(0, n)}})
	// All edges between two nodes: each but the first one makes a ring, and all go round that one.
	edges = nil
	round := map[int][]int{0: row(1, api.MaxEdges-1)}
	for i := range api.MaxEdges {
		edges = append(edges, api.Edge{Id: i, A: 3, B: 9})
		if i > 0 {
			round[i] = []int{i}
		}
	}
	c = of(t, 10, edges...)
	tells(t, c, all{rest: api.MaxEdges - 1, thrice: [][]int{{0}, {1}, {2}, {3, 9}, {4}, {5}, {6}, {7}, {8}}})
	covers(t, c, round)
}

// drawn calls for so many graphs that look drawn, the same each time: of up to so many nodes and edges.
func drawn(times, nodes, most int, call func(n int, edges []api.Edge)) {
	seed := 1
	next := func(below int) int {
		seed = seed * 48271 % (1<<31 - 1)
		return seed % below
	}
	for range times {
		n := 2 + next(nodes-1)
		var edges []api.Edge
		for i := range next(most) + 1 {
			x, y := next(n), next(n)
			if x != y {
				edges = append(edges, api.Edge{Id: i * 37 % 101, A: min(x, y), B: max(x, y)})
			}
		}
		call(n, edges)
	}
}

// TestRingsAreCounted: as many as there are edges more than it takes to hold the parts together; each lies in one block, and the bridges are those that are found edge by edge.
func TestRingsAreCounted(t *testing.T) {
	drawn(60, 20, 60, func(n int, edges []api.Edge) {
		g := made(t, n, edges...)
		c, b, blocks := cycle.Of(g), bridge.Of(g), block.Of(g)
		if want := len(edges) - n + len(b.Wholes()); c.Rest() != want {
			t.Errorf("Rest of %d nodes and %v: %d, want %d", n, edges, c.Rest(), want)
		}
		if !slices.Equal(c.Bridges(), b.Ids()) {
			t.Errorf("Bridges of %v: %v, want %v", edges, c.Bridges(), b.Ids())
		}
		for _, p := range c.Pairs() {
			if same, err := blocks.Same(p.A, p.B); !same || err != nil {
				t.Errorf("%v of %v: of one block: %v, %v", p, edges, same, err)
			}
		}
	})
}

// TestAgainstTheWords: graphs of many kinds tell what the document's words tell.
func TestAgainstTheWords(t *testing.T) {
	drawn(300, 9, 18, func(n int, edges []api.Edge) {
		holds(t, n, edges)
	})
}

// TestSmallGraphs: all graphs of four nodes with at most two edges between any two of them.
func TestSmallGraphs(t *testing.T) {
	for which := range 729 {
		var edges []api.Edge
		rest := which
		for x := range 4 {
			for y := range x {
				for range rest % 3 {
					edges = append(edges, api.Edge{Id: len(edges) * 5 % 13, A: y, B: x})
				}
				rest /= 3
			}
		}
		holds(t, 4, edges)
	}
}
