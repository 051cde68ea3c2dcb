// Package sets: things that are put together.
package sets

import (
	"slices"

	"isthmus/api"
)

// Sets are those of the numbers from 0 on.
type Sets struct {
	// least has of each number the least member of its set: it is the same however the set was joined, so that nothing of that is seen.
	least []int
}

// New is so many sets, of one each. ErrRange: not from 0 to MaxNodes.
func New(n int) (*Sets, error) {
	if n < 0 || n > api.MaxNodes {
		return nil, api.ErrRange
	}
	s := &Sets{least: make([]int, n)}
	for x := range s.least {
		s.least[x] = x
	}
	return s, nil
}

// Join puts two sets together: whether they were two. ErrRange: there is no such member.
func (s *Sets) Join(x, y int) (bool, error) {
	if err := s.check(x, y); err != nil {
		return false, err
	}
	low, high := min(s.least[x], s.least[y]), max(s.least[x], s.least[y])
	if low == high {
		return false, nil
	}
	for z, l := range s.least {
		if l == high {
			s.least[z] = low
		}
	}
	return true, nil
}

// Same says whether two are in one set. ErrRange.
func (s *Sets) Same(x, y int) (bool, error) {
	if err := s.check(x, y); err != nil {
		return false, err
	}
	return s.least[x] == s.least[y], nil
}

// Least is the least member of a set. ErrRange.
func (s *Sets) Least(x int) (int, error) {
	if err := s.check(x); err != nil {
		return 0, err
	}
	return s.least[x], nil
}

// Size is how many members a set has. ErrRange.
func (s *Sets) Size(x int) (int, error) {
	if err := s.check(x); err != nil {
		return 0, err
	}
	return s.count(func(y int) bool { return s.least[y] == s.least[x] }), nil
}

// Many is how many sets there are.
func (s *Sets) Many() int {
	return s.count(func(x int) bool { return s.least[x] == x })
}

// All are the sets, by their least members; each one's members rise.
func (s *Sets) All() [][]int {
	gathered := map[int][]int{}
	for x, l := range s.least {
		gathered[l] = append(gathered[l], x)
	}
	all := make([][]int, 0, len(gathered))
	// The numbers are gone through instead of the map, whose order is not to be seen.
	for x := range s.least {
		if members, ok := gathered[x]; ok {
			all = append(all, members)
		}
	}
	return all
}

// check answers ErrRange, unless each of the numbers is a member.
func (s *Sets) check(numbers ...int) error {
	strange := func(x int) bool { return x < 0 || x >= len(s.least) }
	if slices.ContainsFunc(numbers, strange) {
		return api.ErrRange
	}
	return nil
}

// count is how many members fit.
func (s *Sets) count(fits func(x int) bool) int {
	n := 0
	for x := range s.least {
		if fits(x) {
			n++
		}
	}
	return n
}
