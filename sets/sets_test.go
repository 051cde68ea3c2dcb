package sets_test

import (
	"fmt"
	"math"
	"slices"
	"testing"

	"isthmus/api"
	"isthmus/plain"
	"isthmus/sets"
)

func made(t *testing.T, n int) *sets.Sets {
	t.Helper()
	s, err := sets.New(n)
	if err != nil || s == nil {
		t.Fatalf("New(%d): %v, %v", n, s, err)
	}
	return s
}

func join(t *testing.T, s *sets.Sets, x, y int, want bool) {
	t.Helper()
	got, err := s.Join(x, y)
	if err != nil || got != want {
		t.Fatalf("Join(%d, %d): %v, %v, want %v", x, y, got, err, want)
	}
}

// isRange holds an error against ErrRange without a place (P3).
func isRange(t *testing.T, what string, err error) {
	t.Helper()
	if e, bare := plain.Bare(err); e != api.ErrRange || !bare {
		t.Errorf("%s: error %v, bare %v, want ErrRange without a place", what, err, bare)
	}
}

// holds asks all that the sets of n numbers tell, and holds it against their members.
func holds(t *testing.T, s *sets.Sets, n int, want [][]int) {
	t.Helper()
	if got := s.All(); fmt.Sprint(got) != fmt.Sprint(want) {
		t.Errorf("All: %v, want %v", got, want)
	}
	if got := s.Many(); got != len(want) {
		t.Errorf("Many: %d, want %d", got, len(want))
	}
	for _, members := range want {
		for _, x := range members {
			holdsOne(t, s, n, x, members)
		}
	}
}

func holdsOne(t *testing.T, s *sets.Sets, n, x int, members []int) {
	t.Helper()
	if got, err := s.Least(x); err != nil || got != members[0] {
		t.Errorf("Least(%d): %d, %v, want %d", x, got, err, members[0])
	}
	if got, err := s.Size(x); err != nil || got != len(members) {
		t.Errorf("Size(%d): %d, %v, want %d", x, got, err, len(members))
	}
	for y := range n {
		if got, err := s.Same(x, y); err != nil || got != slices.Contains(members, y) {
			t.Errorf("Same(%d, %d): %v, %v", x, y, got, err)
		}
	}
}

func alone(n int) [][]int {
	var all [][]int
	for x := range n {
		all = append(all, []int{x})
	}
	return all
}

func TestNewIsSetsOfOne(t *testing.T) {
	for n := 0; n <= api.MaxNodes; n++ {
		holds(t, made(t, n), n, alone(n))
	}
}

func TestNewOutOfRange(t *testing.T) {
	for _, n := range []int{-1, -2, math.MinInt, api.MaxNodes + 1, api.MaxNodes + 2, math.MaxInt} {
		s, err := sets.New(n)
		if s != nil {
			t.Errorf("New(%d) made sets", n)
		}
		isRange(t, fmt.Sprintf("New(%d)", n), err)
	}
}

func TestJoin(t *testing.T) {
	s := made(t, 7)
	join(t, s, 5, 3, true)
	holds(t, s, 7, [][]int{{0}, {1}, {2}, {3, 5}, {4}, {6}})
	join(t, s, 1, 6, true)
	holds(t, s, 7, [][]int{{0}, {1, 6}, {2}, {3, 5}, {4}})
	join(t, s, 5, 6, true)
	holds(t, s, 7, [][]int{{0}, {1, 3, 5, 6}, {2}, {4}})
	join(t, s, 4, 2, true)
	join(t, s, 0, 4, true)
	holds(t, s, 7, [][]int{{0, 2, 4}, {1, 3, 5, 6}})
	join(t, s, 6, 4, true)
	holds(t, s, 7, [][]int{{0, 1, 2, 3, 4, 5, 6}})
}

func TestJoinOfOneSetAlready(t *testing.T) {
	s := made(t, 5)
	join(t, s, 2, 2, false)
	holds(t, s, 5, alone(5))
	join(t, s, 0, 3, true)
	join(t, s, 3, 4, true)
	want := [][]int{{0, 3, 4}, {1}, {2}}
	for _, p := range [][2]int{{0, 3}, {3, 0}, {0, 4}, {4, 0}, {4, 3}, {0, 0}, {4, 4}} {
		join(t, s, p[0], p[1], false)
		holds(t, s, 5, want)
	}
}

func TestJoinOfAllThatThereMayBe(t *testing.T) {
	n := api.MaxNodes
	s := made(t, n)
	all := make([]int, n)
	for x := n - 1; x > 0; x-- {
		all[x] = x
		join(t, s, x, x-1, true)
	}
	holds(t, s, n, [][]int{all})
}

func TestNoSuchMember(t *testing.T) {
	for _, n := range []int{0, 1, 6, api.MaxNodes} {
		s := made(t, n)
		want := alone(n)
		if n > 2 {
			join(t, s, 0, 1, true)
			want = append([][]int{{0, 1}}, want[2:]...)
		}
		for _, x := range []int{-1, math.MinInt, n, n + 1, math.MaxInt} {
			strange(t, s, x, max(0, n-1))
			holds(t, s, n, want)
		}
	}
}

// strange asks for x, which is no member, alone, and as the first, the second, and both of two.
func strange(t *testing.T, s *sets.Sets, x, member int) {
	t.Helper()
	for _, p := range [][2]int{{x, member}, {member, x}, {x, x}} {
		joined, err := s.Join(p[0], p[1])
		isRange(t, fmt.Sprint("Join", p), err)
		same, err := s.Same(p[0], p[1])
		isRange(t, fmt.Sprint("Same", p), err)
		if joined || same {
			t.Errorf("%v: Join %v, Same %v beside an error", p, joined, same)
		}
	}
	least, err := s.Least(x)
	isRange(t, fmt.Sprint("Least ", x), err)
	size, err := s.Size(x)
	isRange(t, fmt.Sprint("Size ", x), err)
	if least != 0 || size != 0 {
		t.Errorf("%d: Least %d, Size %d beside an error", x, least, size)
	}
}

// orders calls for each order of the twos, and for each way to turn them round.
func orders(twos [][2]int, at int, call func([][2]int)) {
	if at == len(twos) {
		call(twos)
		return
	}
	for i := at; i < len(twos); i++ {
		twos[at], twos[i] = twos[i], twos[at]
		for range 2 {
			orders(twos, at+1, call)
			twos[at][0], twos[at][1] = twos[at][1], twos[at][0]
		}
		twos[at], twos[i] = twos[i], twos[at]
	}
}

func TestHowTheyWereJoinedIsNotSeen(t *testing.T) {
	want := [][]int{{0}, {1, 4, 6, 7}, {2, 5}, {3}}
	twos := [][2]int{{7, 4}, {6, 1}, {4, 6}, {5, 2}}
	orders(twos, 0, func(twos [][2]int) {
		s := made(t, 8)
		for _, p := range twos {
			join(t, s, p[0], p[1], true)
		}
		join(t, s, 1, 7, false)
		holds(t, s, 8, want)
	})
}

// TestAllIsTheCallers: what All answered may be written into and grown: neither the sets nor another list of it see that (P4).
func TestAllIsTheCallers(t *testing.T) {
	s := made(t, 6)
	join(t, s, 1, 4, true)
	join(t, s, 0, 5, true)
	join(t, s, 3, 5, true)
	want := [][]int{{0, 3, 5}, {1, 4}, {2}}
	all := s.All()
	for i := range all {
		full := all[i][:cap(all[i])]
		for k := range full {
			full[k] = -1
		}
		for k := i + 1; k < len(all); k++ {
			if !slices.Equal(all[k], want[k]) {
				t.Errorf("list %d shares memory with list %d", k, i)
			}
		}
	}
	holds(t, s, 6, want)
}

// TestSetsAreApart: what is done to some sets is not seen in others.
func TestSetsAreApart(t *testing.T) {
	a, b := made(t, 4), made(t, 4)
	join(t, a, 0, 3, true)
	holds(t, b, 4, alone(4))
	join(t, b, 1, 2, true)
	holds(t, a, 4, [][]int{{0, 3}, {1}, {2}})
}
