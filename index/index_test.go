package index_test

import (
	"cmp"
	"fmt"
	"math"
	"slices"
	"testing"

	"isthmus/api"
	"isthmus/block"
	"isthmus/bridge"
	"isthmus/cycle"
	"isthmus/flow"
	"isthmus/graph"
	"isthmus/index"
	"isthmus/plain"
	"isthmus/split"
)

// made is an index with those edges, put in one by one.
func made(t *testing.T, n int, edges ...api.Edge) *index.Index {
	t.Helper()
	x, err := index.New(n)
	if err != nil || x == nil {
		t.Fatalf("New(%d): %v, %v", n, x, err)
	}
	for _, e := range edges {
		if _, err := x.Add(e.Id, e.A, e.B); err != nil {
			t.Fatalf("Add(%v): %v", e, err)
		}
	}
	return x
}

// add puts an edge in that must be a bridge, or none.
func add(t *testing.T, x *index.Index, id, a, b int, want bool) {
	t.Helper()
	if got, err := x.Add(id, a, b); err != nil || got != want {
		t.Errorf("Add(%d, %d, %d): %v, %v, want %v", id, a, b, got, err, want)
	}
}

// drop takes edges out that must be there.
func drop(t *testing.T, x *index.Index, ids ...int) {
	t.Helper()
	for _, id := range ids {
		if err := x.Drop(id); err != nil {
			t.Errorf("Drop(%d): %v", id, err)
		}
	}
}

// isErr holds an error against an Errno without a place (P3).
func isErr(t *testing.T, what string, err error, want api.Errno) {
	t.Helper()
	if e, bare := plain.Bare(err); e != want || !bare {
		t.Errorf("%s: error %v, bare %v, want %d without a place", what, err, bare, int(want))
	}
}

// all is what an index tells in lists.
type all struct {
	edges          []api.Edge
	bridges, cuts  []int
	blocks, thrice [][]int
	pairs, splits  []api.Pair
}

// asked is all that an index tells in lists.
func asked(x *index.Index) all {
	return all{x.Edges(), x.Bridges(), x.Cuts(), x.Blocks(), x.Thrice(), x.Pairs(), x.Splits()}
}

// equal holds lists against each other, and says what they are if they are not the same.
func equal(t *testing.T, got, want all) {
	t.Helper()
	// An empty list may be nil or not, and both are told the same.
	if fmt.Sprint(got) != fmt.Sprint(want) {
		t.Errorf("edges, bridges, cuts, blocks, thrice, pairs, splits:\n%v, want\n%v", got, want)
	}
}

// chapters is what the other chapters tell of a graph with those edges.
func chapters(t *testing.T, n int, edges []api.Edge) (all, *graph.Graph) {
	t.Helper()
	g, err := graph.New(n)
	if err != nil {
		t.Fatal(err)
	}
	for _, e := range edges {
		if err := g.Add(e.Id, e.A, e.B); err != nil {
			t.Fatalf("graph: Add(%v): %v", e, err)
		}
	}
	b, c := block.Of(g), cycle.Of(g)
	return all{g.Edges(), bridge.Of(g).Ids(), b.Cuts(), b.Parts(), c.Thrice(), c.Pairs(), split.Pairs(g)}, g
}

// saved is by the document's words the text of a graph with those edges.
func saved(n int, edges []api.Edge) string {
	text := fmt.Sprintln(n)
	byNumber := slices.SortedFunc(slices.Values(edges), func(e, f api.Edge) int { return cmp.Compare(e.Id, f.Id) })
	for _, e := range byNumber {
		text += fmt.Sprintln(e.Id, min(e.A, e.B), max(e.A, e.B))
	}
	return text
}

// holds asks for all that is known of n nodes and those edges, of the index and of the one that is loaded from its text, and holds it against what the other chapters tell.
func holds(t *testing.T, x *index.Index, n int, edges []api.Edge) {
	t.Helper()
	text := saved(n, edges)
	if got := x.Saved(); got != text {
		t.Errorf("Saved: %q, want %q", got, text)
	}
	want, g := chapters(t, n, edges)
	y, err := index.Load(text)
	if err != nil {
		t.Fatalf("Load(%q): %v", text, err)
	}
	for _, x := range []*index.Index{x, y} {
		equal(t, asked(x), want)
		holdsTwos(t, x, g)
	}
	if again := y.Saved(); again != text {
		t.Errorf("Saved behind Load: %q, want %q", again, text)
	}
	if t.Failed() {
		t.Fatalf("that was of %d nodes and the edges %v", n, edges)
	}
}

// holdsTwos holds what is told of two nodes each, either first, against what the other chapters tell.
func holdsTwos(t *testing.T, x *index.Index, g *graph.Graph) {
	t.Helper()
	bridges := bridge.Of(g)
	for a := range g.Nodes() {
		for b := range g.Nodes() {
			whole, _ := bridges.Whole(a, b)
			twice, _ := bridges.Twice(a, b)
			if got, err := x.Whole(a, b); got != whole || err != nil {
				t.Errorf("Whole(%d, %d): %v, %v, want %v", a, b, got, err, whole)
			}
			if got, err := x.Twice(a, b); got != twice || err != nil {
				t.Errorf("Twice(%d, %d): %v, %v, want %v", a, b, got, err, twice)
			}
			if a != b {
				edges, _ := flow.Edges(g, a, b, api.MaxEdges)
				nodes, _ := flow.Nodes(g, a, b, api.MaxEdges)
				ways(t, x, a, b, edges, nodes)
			}
		}
	}
}

// ways holds how many ways there are between two nodes against what is wanted.
func ways(t *testing.T, x *index.Index, a, b, edges, nodes int) {
	t.Helper()
	if got, err := x.ByEdges(a, b); got != edges || err != nil {
		t.Errorf("ByEdges(%d, %d): %d, %v, want %d", a, b, got, err, edges)
	}
	if got, err := x.ByNodes(a, b); got != nodes || err != nil {
		t.Errorf("ByNodes(%d, %d): %d, %v, want %d", a, b, got, err, nodes)
	}
}

// path are the edges of a row of k nodes from first on, with numbers from id on.
func path(id, first, k int) []api.Edge {
	var edges []api.Edge
	for i := range k - 1 {
		edges = append(edges, api.Edge{Id: id + i, A: first + i, B: first + i + 1})
	}
	return edges
}

// ring are the edges of a ring of k nodes from first on, with numbers from id on.
func ring(id, first, k int) []api.Edge {
	return append(path(id, first, k), api.Edge{Id: id + k - 1, A: first, B: first + k - 1})
}

// alone are so many parts of one node each.
func alone(n int) [][]int {
	var parts [][]int
	for x := range n {
		parts = append(parts, []int{x})
	}
	return parts
}

func TestNewHasNoEdges(t *testing.T) {
	for n := range api.MaxNodes + 1 {
		x := made(t, n)
		equal(t, asked(x), all{thrice: alone(n)})
		if n < 10 {
			holds(t, x, n, nil)
		}
	}
}

func TestNewOutOfRange(t *testing.T) {
	for _, n := range []int{-1, -2, math.MinInt, api.MaxNodes + 1, api.MaxNodes + 2, math.MaxInt} {
		x, err := index.New(n)
		if x != nil {
			t.Errorf("New(%d) made one", n)
		}
		isErr(t, fmt.Sprintf("New(%d)", n), err, api.ErrRange)
	}
}

// TestEachTellsItsOwn: two rings of three with node 2 in common, a ring of four behind a bridge, and a node alone: no two of the lists are the same.
func TestEachTellsItsOwn(t *testing.T) {
	edges := append(append(ring(20, 0, 3), ring(10, 2, 3)...), append(ring(30, 5, 4), api.Edge{Id: 5, A: 4, B: 5}, api.Edge{Id: 40, A: 5, B: 7})...)
	x := made(t, 10, edges...)
	equal(t, asked(x), all{
		edges: []api.Edge{{Id: 5, A: 4, B: 5}, {Id: 10, A: 2, B: 3}, {Id: 11, A: 3, B: 4}, {Id: 12, A: 2, B: 4}, {Id: 20, A: 0, B: 1}, {Id: 21, A: 1, B: 2}, {Id: 22, A: 0, B: 2},
			{Id: 30, A: 5, B: 6}, {Id: 31, A: 6, B: 7}, {Id: 32, A: 7, B: 8}, {Id: 33, A: 5, B: 8}, {Id: 40, A: 5, B: 7}},
		bridges: []int{5},
		cuts:    []int{2, 4, 5},
		blocks:  [][]int{{5}, {10, 11, 12}, {20, 21, 22}, {30, 31, 32, 33, 40}},
		thrice:  [][]int{{0}, {1}, {2}, {3}, {4}, {5, 7}, {6}, {8}, {9}},
		pairs:   []api.Pair{{A: 10, B: 11}, {A: 10, B: 12}, {A: 11, B: 12}, {A: 20, B: 21}, {A: 20, B: 22}, {A: 21, B: 22}, {A: 30, B: 31}, {A: 32, B: 33}},
		splits:  []api.Pair{{A: 5, B: 7}},
	})
	ways(t, x, 0, 4, 2, 1)
	ways(t, x, 8, 0, 1, 1)
	ways(t, x, 5, 7, 3, 3)
	ways(t, x, 9, 0, 0, 0)
	holds(t, x, 10, edges)
}

// TestABridgeIsNoneAndIsOneAgain: the document's example, and back: a later edge makes bridges none, and they are bridges again without it.
func TestABridgeIsNoneAndIsOneAgain(t *testing.T) {
	x := made(t, 4)
	row := path(0, 0, 4)
	for _, e := range row {
		add(t, x, e.Id, e.A, e.B, true)
	}
	holds(t, x, 4, row)
	for range 3 {
		add(t, x, 3, 0, 2, false)
		holds(t, x, 4, append(row, api.Edge{Id: 3, A: 0, B: 2}))
		if got := x.Bridges(); !slices.Equal(got, []int{2}) {
			t.Errorf("Bridges with the ring: %v", got)
		}
		drop(t, x, 3)
		holds(t, x, 4, row)
		if got := x.Bridges(); !slices.Equal(got, []int{0, 1, 2}) {
			t.Errorf("Bridges without it: %v", got)
		}
	}
}

// TestTheRingsFirstEdgeGoes: it was a bridge when it came; without it the one that closed the ring is one.
func TestTheRingsFirstEdgeGoes(t *testing.T) {
	x := made(t, 3)
	add(t, x, 5, 0, 1, true)
	add(t, x, 6, 0, 1, false)
	drop(t, x, 5)
	holds(t, x, 3, []api.Edge{{Id: 6, A: 0, B: 1}})
	add(t, x, 5, 1, 2, true)
	add(t, x, 4, 0, 2, false)
	holds(t, x, 3, []api.Edge{{Id: 6, A: 0, B: 1}, {Id: 5, A: 1, B: 2}, {Id: 4, A: 0, B: 2}})
}

// TestABridgeGoesAndComesAnew: by the same number, between the same nodes or others.
func TestABridgeGoesAndComesAnew(t *testing.T) {
	rings := append(ring(0, 0, 3), ring(10, 3, 3)...)
	x := made(t, 7, rings...)
	for range 2 {
		for _, e := range []api.Edge{{Id: 7, A: 2, B: 3}, {Id: 7, A: 0, B: 5}, {Id: 7, A: 1, B: 6}} {
			add(t, x, e.Id, e.A, e.B, true)
			holds(t, x, 7, append(rings, e))
			drop(t, x, 7)
			holds(t, x, 7, rings)
		}
	}
	// The same number is no bridge where there is a ring.
	add(t, x, 7, 0, 2, false)
	holds(t, x, 7, append(rings, api.Edge{Id: 7, A: 0, B: 2}))
}

// TestFromEitherEnd: an edge is the same one, whichever end is told first, and so are two nodes.
func TestFromEitherEnd(t *testing.T) {
	x := made(t, 4)
	add(t, x, 9, 3, 0, true)
	add(t, x, 2, 1, 0, true)
	add(t, x, 5, 3, 1, false)
	add(t, x, api.MaxId, 2, 1, true)
	want := []api.Edge{{Id: 2, A: 0, B: 1}, {Id: 5, A: 1, B: 3}, {Id: 9, A: 0, B: 3}, {Id: api.MaxId, A: 1, B: 2}}
	if got := x.Edges(); !slices.Equal(got, want) {
		t.Errorf("Edges: %v, want %v", got, want)
	}
	holds(t, x, 4, want)
}

// orders calls for each order of the edges.
func orders(edges []api.Edge, at int, call func([]api.Edge)) {
	if at == len(edges) {
		call(edges)
		return
	}
	for i := at; i < len(edges); i++ {
		edges[at], edges[i] = edges[i], edges[at]
		orders(edges, at+1, call)
		edges[at], edges[i] = edges[i], edges[at]
	}
}

// TestWhatCameAndWentLeftNothing: the same edges in whichever order, with others that came and went between them.
func TestWhatCameAndWentLeftNothing(t *testing.T) {
	edges := append(ring(7, 1, 3), api.Edge{Id: 2, A: 0, B: 2}, api.Edge{Id: 4, A: 0, B: 4})
	want := asked(made(t, 6, edges...))
	orders(edges, 0, func(edges []api.Edge) {
		x := made(t, 6)
		for i, e := range edges {
			x.Add(50+i, 0, 3)
			x.Add(60, 4, 5)
			x.Add(e.Id, e.B, e.A)
			drop(t, x, 60)
		}
		drop(t, x, 54, 52, 53, 50, 51)
		equal(t, asked(x), want)
	})
	x := made(t, 6, edges...)
	for _, e := range edges {
		drop(t, x, e.Id)
	}
	holds(t, x, 6, nil)
}

// refused is one call that fails.
type refused struct {
	id, a, b int
	want     api.Errno
}

// refuses asks for each of them, and whether nothing has changed behind it (P2).
func refuses(t *testing.T, n int, edges []api.Edge, list ...refused) {
	t.Helper()
	x := made(t, n, edges...)
	for _, r := range list {
		what := fmt.Sprintf("Add(%d, %d, %d)", r.id, r.a, r.b)
		is, err := x.Add(r.id, r.a, r.b)
		isErr(t, what, err, r.want)
		if is {
			t.Errorf("%s: true beside an error", what)
		}
		holds(t, x, n, edges)
	}
}

func TestAddWrong(t *testing.T) {
	edges := append(ring(3, 0, 3), api.Edge{Id: 8, A: 2, B: 3})
	refuses(t, 5, edges,
		refused{-1, 0, 4, api.ErrRange}, refused{api.MaxId + 1, 0, 4, api.ErrRange}, refused{math.MinInt, 0, 4, api.ErrRange}, refused{math.MaxInt, 0, 4, api.ErrRange},
		refused{1, -1, 4, api.ErrRange}, refused{1, 4, -1, api.ErrRange}, refused{1, 5, 4, api.ErrRange}, refused{1, 4, 5, api.ErrRange}, refused{1, 4, math.MaxInt, api.ErrRange},
		refused{1, 4, 4, api.ErrArg}, refused{1, 0, 0, api.ErrArg},
		refused{3, 3, 4, api.ErrTwice}, refused{8, 2, 3, api.ErrTwice}, refused{8, 3, 2, api.ErrTwice},
		// Several apply: the one that is told first.
		refused{-1, 4, 4, api.ErrRange}, refused{1, 5, 5, api.ErrRange}, refused{3, 0, 5, api.ErrRange}, refused{3, 4, 4, api.ErrArg},
	)
	refuses(t, 0, nil, refused{0, 0, 0, api.ErrRange}, refused{0, 0, 1, api.ErrRange})
	refuses(t, 1, nil, refused{0, 0, 0, api.ErrArg}, refused{0, 0, 1, api.ErrRange})
}

// TestAddFull: as many edges as there may be, and a place that is free again when one went.
func TestAddFull(t *testing.T) {
	var edges []api.Edge
	for i := range api.MaxEdges / 4 {
		edges = append(edges, ring(10*i, 0, 4)...)
	}
	refuses(t, 6, edges,
		refused{1000, 3, 5, api.ErrFull}, refused{1000, 0, 1, api.ErrFull},
		refused{0, 3, 5, api.ErrTwice}, refused{0, 5, 5, api.ErrArg}, refused{1000, 5, 6, api.ErrRange})
	x := made(t, 6, edges...)
	drop(t, x, 2)
	add(t, x, 1000, 3, 5, true)
	holds(t, x, 6, append(slices.Delete(edges, 2, 3), api.Edge{Id: 1000, A: 3, B: 5}))
}

// TestNumberOfAWrongAddIsFree: nothing was changed, so that it may come yet.
func TestNumberOfAWrongAddIsFree(t *testing.T) {
	x := made(t, 3)
	for _, ends := range []api.Pair{{A: 0, B: 3}, {A: 1, B: 1}} {
		if _, err := x.Add(7, ends.A, ends.B); err == nil {
			t.Errorf("Add(7, %d, %d) took it", ends.A, ends.B)
		}
	}
	add(t, x, 7, 0, 1, true)
	holds(t, x, 3, []api.Edge{{Id: 7, A: 0, B: 1}})
}

func TestDropMissing(t *testing.T) {
	edges := append(ring(3, 0, 3), api.Edge{Id: 8, A: 2, B: 3})
	x := made(t, 5, append(edges, api.Edge{Id: 6, A: 3, B: 4})...)
	drop(t, x, 6)
	for _, id := range []int{6, 0, 2, 7, 9, -1, api.MaxId, api.MaxId + 1, math.MinInt, math.MaxInt} {
		isErr(t, fmt.Sprintf("Drop(%d)", id), x.Drop(id), api.ErrMissing)
		holds(t, x, 5, edges)
	}
	isErr(t, "Drop of none", made(t, 0).Drop(0), api.ErrMissing)
}

// refusesTwos asks each of what is asked of two nodes: it must answer the error without a place (P3), and nothing beside it (P2).
func refusesTwos(t *testing.T, x *index.Index, a, b int, want api.Errno) {
	t.Helper()
	edges, err := x.ByEdges(a, b)
	isErr(t, fmt.Sprintf("ByEdges(%d, %d)", a, b), err, want)
	nodes, err := x.ByNodes(a, b)
	isErr(t, fmt.Sprintf("ByNodes(%d, %d)", a, b), err, want)
	if edges != 0 || nodes != 0 {
		t.Errorf("%d and %d: %d and %d ways beside errors", a, b, edges, nodes)
	}
	if want != api.ErrRange {
		return
	}
	whole, err := x.Whole(a, b)
	isErr(t, fmt.Sprintf("Whole(%d, %d)", a, b), err, want)
	twice, err := x.Twice(a, b)
	isErr(t, fmt.Sprintf("Twice(%d, %d)", a, b), err, want)
	if whole || twice {
		t.Errorf("Whole, Twice of %d and %d: %v, %v beside errors", a, b, whole, twice)
	}
}

func TestNoSuchNode(t *testing.T) {
	for _, n := range []int{0, 1, 5, api.MaxNodes} {
		x := made(t, n)
		for _, a := range []int{-1, n, n + 1, math.MinInt, math.MaxInt} {
			for _, b := range []int{0, n - 1, n, -1, math.MaxInt} {
				refusesTwos(t, x, a, b, api.ErrRange)
				refusesTwos(t, x, b, a, api.ErrRange)
			}
			refusesTwos(t, x, a, a, api.ErrRange)
		}
	}
}

// TestBothAreOne: that is wrong for ways, but a node is with itself.
func TestBothAreOne(t *testing.T) {
	x := made(t, 5, ring(0, 0, 3)...)
	for a := range 5 {
		refusesTwos(t, x, a, a, api.ErrArg)
		whole, err := x.Whole(a, a)
		twice, err2 := x.Twice(a, a)
		if !whole || !twice || err != nil || err2 != nil {
			t.Errorf("Whole, Twice of %d and itself: %v, %v, %v, %v", a, whole, err, twice, err2)
		}
	}
}

// TestAllWaysAreCounted: as many as there may be edges.
func TestAllWaysAreCounted(t *testing.T) {
	x := made(t, 3)
	for i := range api.MaxEdges {
		add(t, x, i, 0, 2, i == 0)
	}
	ways(t, x, 0, 2, api.MaxEdges, api.MaxEdges)
	ways(t, x, 0, 1, 0, 0)
}

// spoil writes into all that a list has, behind its length, too.
func spoil(l []int) {
	l = l[:cap(l)]
	for i := range l {
		l[i] = -7
	}
}

// TestListsAreTheCallers: what came out may be written into: neither the index nor another list sees that, nor does it see what comes later (P4).
func TestListsAreTheCallers(t *testing.T) {
	edges := append(ring(0, 0, 4), append(ring(10, 4, 3), api.Edge{Id: 20, A: 3, B: 4}, api.Edge{Id: 21, A: 5, B: 7})...)
	x := made(t, 8, edges...)
	first := asked(x)
	told := fmt.Sprint(first)
	for i := range first.blocks {
		got := asked(x)
		clear(got.edges[:cap(got.edges)])
		spoil(got.bridges)
		spoil(got.cuts)
		clear(got.pairs[:cap(got.pairs)])
		clear(got.splits[:cap(got.splits)])
		spoil(got.blocks[i])
		spoil(got.thrice[i])
		holds(t, x, 8, edges)
		got.blocks[i], got.thrice[i] = first.blocks[i], first.thrice[i]
		if fmt.Sprint(got.blocks, got.thrice) != fmt.Sprint(first.blocks, first.thrice) {
			t.Errorf("a list wrote into another one: %v, %v", got.blocks, got.thrice)
		}
	}
	drop(t, x, 0, 20)
	add(t, x, 1000, 0, 7, true)
	if fmt.Sprint(first) != told {
		t.Errorf("what was answered is now %v, was %v", first, told)
	}
}

func TestTheyAreApart(t *testing.T) {
	x, y := made(t, 3), made(t, 3)
	add(t, x, 1, 0, 1, true)
	holds(t, y, 3, nil)
	add(t, y, 1, 1, 2, true)
	add(t, y, 2, 1, 2, false)
	holds(t, x, 3, []api.Edge{{Id: 1, A: 0, B: 1}})
}

// TestAgainstTheChapters: edges that come and go, as if they were drawn, all asked for between one and the next; loaded now and then.
func TestAgainstTheChapters(t *testing.T) {
	seed := 1
	next := func(below int) int {
		seed = seed * 48271 % (1<<31 - 1)
		return seed % below
	}
	for range 25 {
		n := 2 + next(7)
		x := made(t, n)
		var edges []api.Edge
		for step := range 40 {
			if len(edges) > 0 && next(5) < 2 {
				i := next(len(edges))
				drop(t, x, edges[i].Id)
				edges = slices.Delete(edges, i, i+1)
			} else if a, b := next(n), next(n); a != b {
				e := api.Edge{Id: step * 37 % 101, A: a, B: b}
				whole, _ := x.Whole(a, b)
				add(t, x, e.Id, a, b, !whole)
				edges = append(edges, e)
			}
			if next(4) == 0 {
				y, err := index.Load(x.Saved())
				if err != nil {
					t.Fatalf("Load: %v", err)
				}
				x = y
			}
			holds(t, x, n, edges)
		}
	}
}
