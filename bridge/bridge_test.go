package bridge_test

import (
	"fmt"
	"math"
	"slices"
	"testing"

	"isthmus/api"
	"isthmus/bridge"
	"isthmus/graph"
	"isthmus/plain"
)

func made(t *testing.T, n int) *bridge.Bridges {
	t.Helper()
	b, err := bridge.New(n)
	if err != nil || b == nil {
		t.Fatalf("New(%d): %v, %v", n, b, err)
	}
	return b
}

// add puts an edge in that must be a bridge, or none.
func add(t *testing.T, b *bridge.Bridges, e api.Edge, want bool) {
	t.Helper()
	if got, err := b.Add(e.Id, e.A, e.B); err != nil || got != want {
		t.Fatalf("Add(%d, %d, %d): %v, %v, want %v", e.Id, e.A, e.B, got, err, want)
	}
}

// grown has those edges, put in one by one, and asked for all after each.
func grown(t *testing.T, n int, edges ...api.Edge) *bridge.Bridges {
	t.Helper()
	b := made(t, n)
	for i, e := range edges {
		add(t, b, e, !together(edges[:i], e.A, e.B))
		holds(t, b, n, edges[:i+1])
	}
	return b
}

// isErr holds an error against an Errno without a place (P3).
func isErr(t *testing.T, what string, err error, want api.Errno) {
	t.Helper()
	if e, bare := plain.Bare(err); e != want || !bare {
		t.Errorf("%s: error %v, bare %v, want %d without a place", what, err, bare, int(want))
	}
}

// together says by the document's words whether edges lead from one node to another one.
func together(edges []api.Edge, x, y int) bool {
	var reached [api.MaxNodes]bool
	reached[x] = true
	for grew := true; grew; {
		grew = false
		for _, e := range edges {
			if reached[e.A] != reached[e.B] {
				reached[e.A], reached[e.B] = true, true
				grew = true
			}
		}
	}
	return reached[y]
}

// without are the edges but one.
func without(edges []api.Edge, place int) []api.Edge {
	return slices.Delete(slices.Clone(edges), place, place+1)
}

// twice says by the document's words whether two nodes stay together whichever one edge is taken away.
func twice(edges []api.Edge, x, y int) bool {
	for i := range edges {
		if !together(without(edges, i), x, y) {
			return false
		}
	}
	return together(edges, x, y)
}

// bridges are by the document's words the numbers of the edges without which their ends are not together.
func bridges(edges []api.Edge) []int {
	var ids []int
	for i, e := range edges {
		if !together(without(edges, i), e.A, e.B) {
			ids = append(ids, e.Id)
		}
	}
	slices.Sort(ids)
	return ids
}

// holds asks all that is known of n nodes and those edges, and holds it against the document's words.
func holds(t *testing.T, b *bridge.Bridges, n int, edges []api.Edge) {
	t.Helper()
	if got, want := b.Ids(), bridges(edges); !slices.Equal(got, want) {
		t.Errorf("Ids of %v: %v, want %v", edges, got, want)
	}
	holdsParts(t, fmt.Sprint("Whole of ", edges), n, b.Whole, b.Wholes(), func(x, y int) bool { return together(edges, x, y) })
	holdsParts(t, fmt.Sprint("Twice of ", edges), n, b.Twice, b.Parts(), func(x, y int) bool { return twice(edges, x, y) })
}

// holdsParts holds what is told of two nodes each, and of the parts, against what is true.
func holdsParts(t *testing.T, what string, n int, ask func(x, y int) (bool, error), parts [][]int, is func(x, y int) bool) {
	t.Helper()
	var want [][]int
	for x := range n {
		var part []int
		for y := range n {
			said, err := ask(x, y)
			if err != nil || said != is(x, y) {
				t.Errorf("%s: of %d and %d: %v, %v, want %v", what, x, y, said, err, is(x, y))
			}
			if is(x, y) {
				part = append(part, y)
			}
		}
		if part[0] == x {
			want = append(want, part)
		}
	}
	same(t, what, parts, want)
}

func same(t *testing.T, what string, got, want [][]int) {
	t.Helper()
	if !slices.EqualFunc(got, want, slices.Equal[[]int]) {
		t.Errorf("%s: parts %v, want %v", what, got, want)
	}
}

// ring are the edges of a ring of k nodes from first on, with numbers from id on.
func ring(id, first, k int) []api.Edge {
	edges := path(id, first, k)
	return append(edges, api.Edge{Id: id + k - 1, A: first, B: first + k - 1})
}

// path are the edges of a row of k nodes from first on, with numbers from id on.
func path(id, first, k int) []api.Edge {
	var edges []api.Edge
	for i := range k - 1 {
		edges = append(edges, api.Edge{Id: id + i, A: first + i, B: first + i + 1})
	}
	return edges
}

func TestNewHasNoEdges(t *testing.T) {
	for n := 0; n <= api.MaxNodes; n++ {
		holds(t, made(t, n), n, nil)
	}
}

func TestNewOutOfRange(t *testing.T) {
	for _, n := range []int{-1, -2, math.MinInt, api.MaxNodes + 1, api.MaxNodes + 2, math.MaxInt} {
		b, err := bridge.New(n)
		if b != nil {
			t.Errorf("New(%d) made one", n)
		}
		isErr(t, fmt.Sprintf("New(%d)", n), err, api.ErrRange)
	}
}

// TestTheDocumentsExample: 0 to 1, 1 to 2, 2 to 3 are bridges each; then 0 to 2 is none, and 2 to 3 alone is one yet.
func TestTheDocumentsExample(t *testing.T) {
	b := made(t, 4)
	for i := range 3 {
		add(t, b, api.Edge{Id: i, A: i, B: i + 1}, true)
	}
	if got := b.Ids(); !slices.Equal(got, []int{0, 1, 2}) {
		t.Errorf("Ids of a row: %v", got)
	}
	same(t, "Wholes of a row", b.Wholes(), [][]int{{0, 1, 2, 3}})
	same(t, "Parts of a row", b.Parts(), [][]int{{0}, {1}, {2}, {3}})
	add(t, b, api.Edge{Id: 3, A: 0, B: 2}, false)
	if got := b.Ids(); !slices.Equal(got, []int{2}) {
		t.Errorf("Ids: %v", got)
	}
	same(t, "Wholes", b.Wholes(), [][]int{{0, 1, 2, 3}})
	same(t, "Parts", b.Parts(), [][]int{{0, 1, 2}, {3}})
}

func TestAddWithEitherEndFirst(t *testing.T) {
	b := made(t, 3)
	add(t, b, api.Edge{Id: 5, A: 2, B: 0}, true)
	add(t, b, api.Edge{Id: 3, A: 1, B: 2}, true)
	add(t, b, api.Edge{Id: 4, A: 1, B: 0}, false)
	holds(t, b, 3, []api.Edge{{Id: 5, A: 0, B: 2}, {Id: 3, A: 1, B: 2}, {Id: 4, A: 0, B: 1}})
}

// orders calls for each order of the edges.
func orders(edges []api.Edge, at int, call func([]api.Edge)) {
	if at == len(edges) {
		call(edges)
		return
	}
	for i := at; i < len(edges); i++ {
		edges[at], edges[i] = edges[i], edges[at]
		orders(edges, at+1, call)
		edges[at], edges[i] = edges[i], edges[at]
	}
}

// TestHowItGrewIsNotSeen: the same edges, in whichever order.
func TestHowItGrewIsNotSeen(t *testing.T) {
	for _, edges := range [][]api.Edge{
		// A ring with a tail, and an edge apart from it.
		append(ring(10, 1, 3), api.Edge{Id: 4, A: 0, B: 2}, api.Edge{Id: 90, A: 4, B: 5}),
		// Two rings of three with node 2 in common.
		append(ring(0, 0, 3), ring(7, 2, 3)...),
		// Two rings of two with a bridge between them.
		{{Id: 1, A: 0, B: 3}, {Id: 2, A: 0, B: 3}, {Id: 3, A: 1, B: 3}, {Id: 4, A: 1, B: 5}, {Id: 5, A: 1, B: 5}},
		// A ring of four with an edge across.
		append(ring(3, 2, 4), api.Edge{Id: 0, A: 2, B: 4}),
	} {
		orders(edges, 0, func(edges []api.Edge) { grown(t, 6, edges...) })
	}
}

func TestSeveralOfTheSameEnds(t *testing.T) {
	b := made(t, 3)
	add(t, b, api.Edge{Id: 8, A: 1, B: 2}, true)
	add(t, b, api.Edge{Id: 2, A: 2, B: 0}, true)
	add(t, b, api.Edge{Id: 5, A: 2, B: 1}, false)
	if got := b.Ids(); !slices.Equal(got, []int{2}) {
		t.Errorf("Ids: %v, want edge 2 alone", got)
	}
	same(t, "Parts", b.Parts(), [][]int{{0}, {1, 2}})
	add(t, b, api.Edge{Id: 6, A: 1, B: 2}, false)
	add(t, b, api.Edge{Id: 1, A: 2, B: 0}, false)
	if got := b.Ids(); len(got) != 0 {
		t.Errorf("Ids: %v, want none", got)
	}
	same(t, "Parts", b.Parts(), [][]int{{0, 1, 2}})
}

func TestRingThatIsClosedLate(t *testing.T) {
	n := api.MaxNodes
	b := made(t, n)
	row := path(0, 0, n)
	for _, e := range row {
		add(t, b, e, true)
	}
	holds(t, b, n, row)
	// A ring amid the row, then one that takes it in with more, then all.
	row = append(row, api.Edge{Id: 100, A: 10, B: 20})
	add(t, b, row[len(row)-1], false)
	holds(t, b, n, row)
	row = append(row, api.Edge{Id: 101, A: 5, B: 15})
	add(t, b, row[len(row)-1], false)
	holds(t, b, n, row)
	row = append(row, api.Edge{Id: 102, A: 0, B: n - 1})
	add(t, b, row[len(row)-1], false)
	holds(t, b, n, row)
	if got := b.Ids(); len(got) != 0 {
		t.Errorf("bridges in a ring: %v", got)
	}
}

// TestOnlyTheRingsBridgesAreGone: those that branch off from it stay.
func TestOnlyTheRingsBridgesAreGone(t *testing.T) {
	edges := path(0, 0, 5)
	for i := range 5 {
		edges = append(edges, api.Edge{Id: 20 - i, A: i, B: 5 + i}, api.Edge{Id: 40 - i, A: 5 + i, B: 10 + i})
	}
	b := grown(t, 16, edges...)
	edges = append(edges, api.Edge{Id: 60, A: 6, B: 8})
	add(t, b, edges[len(edges)-1], false)
	holds(t, b, 16, edges)
	if got, want := b.Ids(), []int{0, 3, 16, 18, 20, 36, 37, 38, 39, 40}; !slices.Equal(got, want) {
		t.Errorf("Ids: %v, want %v", got, want)
	}
	same(t, "Parts", b.Parts(), [][]int{{0}, {1, 2, 3, 6, 8}, {4}, {5}, {7}, {9}, {10}, {11}, {12}, {13}, {14}, {15}})
}

func TestSeveralParts(t *testing.T) {
	edges := append(ring(0, 1, 3), append(ring(10, 5, 4), api.Edge{Id: 20, A: 0, B: 9})...)
	b := grown(t, 11, edges...)
	same(t, "Wholes", b.Wholes(), [][]int{{0, 9}, {1, 2, 3}, {4}, {5, 6, 7, 8}, {10}})
	same(t, "Parts", b.Parts(), [][]int{{0}, {1, 2, 3}, {4}, {5, 6, 7, 8}, {9}, {10}})
	// A bridge joins two rings: whole, but not twice.
	add(t, b, api.Edge{Id: 30, A: 8, B: 2}, true)
	same(t, "Wholes", b.Wholes(), [][]int{{0, 9}, {1, 2, 3, 5, 6, 7, 8}, {4}, {10}})
	same(t, "Parts", b.Parts(), [][]int{{0}, {1, 2, 3}, {4}, {5, 6, 7, 8}, {9}, {10}})
	// Another one, between other nodes of them: they are one part, and there is no bridge between them any more.
	add(t, b, api.Edge{Id: 31, A: 1, B: 6}, false)
	same(t, "Parts", b.Parts(), [][]int{{0}, {1, 2, 3, 5, 6, 7, 8}, {4}, {9}, {10}})
	if got := b.Ids(); !slices.Equal(got, []int{20}) {
		t.Errorf("Ids: %v, want edge 20 alone", got)
	}
}

// TestAnyNumber: no number is ruled out, and none stands for something else.
func TestAnyNumber(t *testing.T) {
	numbers := []int{0, -1, math.MaxInt, math.MinInt, api.MaxId + 1, -2}
	for i := range numbers {
		ids := append(slices.Clone(numbers[i:]), numbers[:i]...)
		var edges []api.Edge
		for k, id := range ids[:5] {
			edges = append(edges, api.Edge{Id: id, A: k, B: k + 1})
		}
		grown(t, 6, append(edges, api.Edge{Id: ids[5], A: 1, B: 4})...)
	}
}

// TestMoreEdgesThanAGraphHas: only the number of nodes is bounded.
func TestMoreEdgesThanAGraphHas(t *testing.T) {
	b := made(t, 3)
	add(t, b, api.Edge{Id: 0, A: 0, B: 1}, true)
	for i := range 3 * api.MaxEdges {
		add(t, b, api.Edge{Id: 1 + i, A: 1, B: 0}, false)
	}
	add(t, b, api.Edge{Id: 1000, A: 1, B: 2}, true)
	if got := b.Ids(); !slices.Equal(got, []int{1000}) {
		t.Errorf("Ids: %v", got)
	}
}

// wrong is an Add that fails.
type wrong struct {
	id, x, y int
	want     api.Errno
}

// refuses asks for each of them, and whether nothing is changed (P2).
func refuses(t *testing.T, n int, edges []api.Edge, all ...wrong) {
	t.Helper()
	b := grown(t, n, edges...)
	for _, w := range all {
		what := fmt.Sprintf("Add(%d, %d, %d)", w.id, w.x, w.y)
		is, err := b.Add(w.id, w.x, w.y)
		isErr(t, what, err, w.want)
		if is {
			t.Errorf("%s: true beside an error", what)
		}
		holds(t, b, n, edges)
	}
}

func TestAddWrong(t *testing.T) {
	edges := append(ring(3, 0, 3), api.Edge{Id: 8, A: 2, B: 3})
	refuses(t, 5, edges,
		wrong{1, -1, 2, api.ErrRange}, wrong{1, 2, -1, api.ErrRange}, wrong{1, 5, 2, api.ErrRange}, wrong{1, 2, 5, api.ErrRange},
		wrong{1, math.MinInt, 2, api.ErrRange}, wrong{1, 2, math.MaxInt, api.ErrRange}, wrong{1, -1, 5, api.ErrRange},
		wrong{1, 0, 0, api.ErrArg}, wrong{1, 3, 3, api.ErrArg}, wrong{1, 4, 4, api.ErrArg},
		// Both apply: ErrRange is told first.
		wrong{1, 5, 5, api.ErrRange}, wrong{1, -1, -1, api.ErrRange}, wrong{1, math.MaxInt, math.MaxInt, api.ErrRange},
	)
	refuses(t, 0, nil, wrong{0, 0, 0, api.ErrRange}, wrong{0, 0, 1, api.ErrRange})
	refuses(t, 1, nil, wrong{0, 0, 0, api.ErrArg}, wrong{0, 0, 1, api.ErrRange}, wrong{0, 1, 0, api.ErrRange}, wrong{0, 1, 1, api.ErrRange})
	n := api.MaxNodes
	refuses(t, n, path(0, n-3, 3), wrong{2, n - 1, n, api.ErrRange}, wrong{2, n, 0, api.ErrRange}, wrong{2, n - 1, n - 1, api.ErrArg})
}

// TestNumberOfAWrongAddIsFree: nothing was changed, so that it may come yet.
func TestNumberOfAWrongAddIsFree(t *testing.T) {
	b := made(t, 3)
	for _, ends := range []api.Pair{{A: 0, B: 3}, {A: 1, B: 1}} {
		if _, err := b.Add(7, ends.A, ends.B); err == nil {
			t.Errorf("Add(7, %d, %d) took it", ends.A, ends.B)
		}
	}
	add(t, b, api.Edge{Id: 7, A: 0, B: 1}, true)
	holds(t, b, 3, []api.Edge{{Id: 7, A: 0, B: 1}})
}

func TestNoSuchNode(t *testing.T) {
	for _, n := range []int{0, 1, 3, api.MaxNodes} {
		b := made(t, n)
		if n > 1 {
			add(t, b, api.Edge{Id: 1, A: 0, B: n - 1}, true)
			add(t, b, api.Edge{Id: 2, A: 0, B: n - 1}, false)
		}
		for _, x := range []int{-1, math.MinInt, n, n + 1, math.MaxInt} {
			for _, y := range []int{0, n - 1, x, -1, n} {
				noSuch(t, "Whole", b.Whole, x, y)
				noSuch(t, "Twice", b.Twice, x, y)
			}
		}
	}
}

func noSuch(t *testing.T, name string, ask func(x, y int) (bool, error), x, y int) {
	t.Helper()
	for _, p := range [][2]int{{x, y}, {y, x}} {
		what := fmt.Sprintf("%s(%d, %d)", name, p[0], p[1])
		is, err := ask(p[0], p[1])
		isErr(t, what, err, api.ErrRange)
		if is {
			t.Errorf("%s: true beside an error", what)
		}
	}
}

// TestNumberThatComesAgain: nothing is promised but that each call ends.
func TestNumberThatComesAgain(t *testing.T) {
	for _, many := range []int{1, 2, 3, 5} {
		b := made(t, 9)
		for i, seed := 0, many; i < 2000; i++ {
			seed = seed * 48271 % (1<<31 - 1)
			b.Add(seed%many, seed/7%9, seed/63%9)
			b.Ids()
			b.Wholes()
			b.Parts()
			b.Whole(0, 8)
			b.Twice(8, 0)
			if i%20 == 0 {
				b = made(t, 9)
			}
		}
	}
}

// copied is a graph with those edges.
func copied(t *testing.T, n int, edges ...api.Edge) *graph.Graph {
	t.Helper()
	g, err := graph.New(n)
	if err != nil {
		t.Fatal(err)
	}
	for _, e := range edges {
		if err := g.Add(e.Id, e.A, e.B); err != nil {
			t.Fatalf("graph: Add(%v): %v", e, err)
		}
	}
	return g
}

func TestOf(t *testing.T) {
	for _, n := range []int{0, 1, 2, api.MaxNodes} {
		holds(t, bridge.Of(copied(t, n)), n, nil)
	}
	edges := append(ring(9, 1, 3), api.Edge{Id: 2, A: 0, B: 3}, api.Edge{Id: 0, A: 4, B: 6}, api.Edge{Id: api.MaxId, A: 4, B: 6})
	orders(edges, 0, func(edges []api.Edge) {
		if edges[0].Id != 2 {
			return
		}
		holds(t, bridge.Of(copied(t, 7, edges...)), 7, edges)
	})
	n := api.MaxNodes
	edges = append(append(ring(0, 0, n), ring(n, 0, n)...), ring(2*n, 0, n)...)
	b := bridge.Of(copied(t, n, edges...))
	if got := b.Ids(); len(edges) != api.MaxEdges || len(got) != 0 || len(b.Parts()) != 1 || len(b.Wholes()) != 1 {
		t.Errorf("all the edges that there may be, in a ring: %v, %v, %v", got, b.Parts(), b.Wholes())
	}
}

// TestOfIsApart: what is known hangs on the edges that the graph had (P4); and it grows on its own.
func TestOfIsApart(t *testing.T) {
	edges := append(ring(0, 0, 3), api.Edge{Id: 5, A: 2, B: 3})
	g := copied(t, 5, edges...)
	b := bridge.Of(g)
	if err := g.Drop(1); err != nil {
		t.Fatal(err)
	}
	if err := g.Add(6, 3, 4); err != nil {
		t.Fatal(err)
	}
	holds(t, b, 5, edges)
	before := g.Edges()
	add(t, b, api.Edge{Id: 7, A: 3, B: 1}, false)
	add(t, b, api.Edge{Id: 8, A: 0, B: 4}, true)
	holds(t, b, 5, append(edges, api.Edge{Id: 7, A: 1, B: 3}, api.Edge{Id: 8, A: 0, B: 4}))
	if got := g.Edges(); !slices.Equal(got, before) {
		t.Errorf("the graph has now %v, had %v", got, before)
	}
}

// spoil writes into all that a list has, behind its length, too.
func spoil(l []int) {
	l = l[:cap(l)]
	for i := range l {
		l[i] = -7
	}
}

// TestListsAreTheCallers: what came out may be written into and grown: neither what is known nor another list sees that (P4).
func TestListsAreTheCallers(t *testing.T) {
	edges := append(ring(0, 0, 3), append(ring(4, 4, 2), api.Edge{Id: 7, A: 2, B: 3}, api.Edge{Id: 9, A: 3, B: 5})...)
	b := grown(t, 7, edges...)
	before := b.Ids()
	spoil(b.Ids())
	holds(t, b, 7, edges)
	for _, ask := range []func() [][]int{b.Wholes, b.Parts} {
		want := fmt.Sprint(ask())
		for i := range ask() {
			got, again := ask(), ask()
			spoil(got[i])
			if fmt.Sprint(again) != want {
				t.Errorf("a list wrote into another answer: %v, want %v", again, want)
			}
			got[i] = again[i]
			if fmt.Sprint(got) != want {
				t.Errorf("a list wrote into another one: %v, want %v", got, want)
			}
			clear(got[:cap(got)])
			holds(t, b, 7, edges)
		}
	}
	add(t, b, api.Edge{Id: 11, A: 0, B: 4}, false)
	if !slices.Equal(before, []int{7, 9}) {
		t.Errorf("a list that was answered is now %v", before)
	}
}

func TestTheyAreApart(t *testing.T) {
	b, c := made(t, 3), made(t, 3)
	add(t, b, api.Edge{Id: 1, A: 0, B: 1}, true)
	holds(t, c, 3, nil)
	add(t, c, api.Edge{Id: 1, A: 1, B: 2}, true)
	add(t, c, api.Edge{Id: 2, A: 1, B: 2}, false)
	holds(t, b, 3, []api.Edge{{Id: 1, A: 0, B: 1}})
}

// TestAgainstTheWords: graphs of many kinds, asked for all after each edge, tell what the document's words tell.
func TestAgainstTheWords(t *testing.T) {
	seed := 1
	next := func(most int) int {
		seed = seed * 48271 % (1<<31 - 1)
		return seed % most
	}
	for range 150 {
		n := 2 + next(9)
		var edges []api.Edge
		for i := range next(2*n) + 1 {
			x, y := next(n), next(n)
			if x != y {
				edges = append(edges, api.Edge{Id: i * 37 % 101, A: min(x, y), B: max(x, y)})
			}
		}
		grown(t, n, edges...)
		holds(t, bridge.Of(copied(t, n, edges...)), n, edges)
	}
}
