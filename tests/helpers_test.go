package tests

import (
	"math"
	"testing"

	"loop.example/g01362/impl"
)

// parsed returns the colouring with a text that must be right.
func parsed(t *testing.T, text string) impl.Colouring {
	t.Helper()
	x, code := impl.ParseColouring(text)
	if code != impl.ErrNone {
		t.Fatalf("ParseColouring(%q) returns the code %d", text, code)
	}
	return x
}

// named returns the colouring with a name that must be there.
func named(t *testing.T, name string) impl.Colouring {
	t.Helper()
	x, code := impl.NamedColouring(name)
	if code != impl.ErrNone {
		t.Fatalf("NamedColouring(%q) returns the code %d", name, code)
	}
	return x
}

// mixed returns a colouring whose colours follow no simple pattern; it is the same one for the same
// arguments.
func mixed(n int64, k int64, seed uint64) impl.Colouring {
	x := impl.Colouring{Points: n, Colours: k}
	state := seed*2654435761 + uint64(n*31+k)
	for e := range n * (n - 1) / 2 {
		state = state*6364136223846793005 + 1442695040888963407
		x.Edges[e] = byte((state >> 33) % uint64(k))
	}
	return x
}

// mixedList returns an order of the numbers 0 to n - 1; it is the same one for the same arguments.
func mixedList(n int64, seed uint64) []int64 {
	list := upTo(n)
	state := seed*2654435761 + uint64(n)
	for i := n - 1; i > 0; i-- {
		state = state*6364136223846793005 + 1442695040888963407
		j := int64((state >> 33) % uint64(i+1))
		list[i], list[j] = list[j], list[i]
	}
	return list
}

// everyShape calls a function with colourings of all numbers of points and colours.
func everyShape(use func(x impl.Colouring)) {
	for n := int64(1); n <= impl.MaxPoints; n++ {
		for k := int64(1); k <= impl.MaxColours; k++ {
			for seed := range uint64(3) {
				use(mixed(n, k, seed))
			}
		}
	}
}

// colourIn returns the colour of the edge of two different points, by the definition alone.
func colourIn(x impl.Colouring, i int64, j int64) int64 {
	if i > j {
		i, j = j, i
	}
	return int64(x.Edges[j*(j-1)/2+i])
}

// upTo returns the list of the numbers 0 to n - 1.
func upTo(n int64) []int64 {
	var list []int64
	for i := range n {
		list = append(list, i)
	}
	return list
}

// sameNumber returns a list with one number n times.
func sameNumber(n int64, number int64) []int64 {
	list := make([]int64, n)
	for i := range list {
		list[i] = number
	}
	return list
}

// wrongColourings returns structs that are no colourings, each one for a reason of its own.
func wrongColourings() map[string]impl.Colouring {
	late := mixed(17, 3, 1)
	late.Edges[135] = 3
	return map[string]impl.Colouring{
		"zero value":            {},
		"no points":             {Points: 0, Colours: 2},
		"fewer than no points":  {Points: -1, Colours: 2},
		"least points":          {Points: math.MinInt64, Colours: 2},
		"one point too many":    {Points: 18, Colours: 2},
		"most points":           {Points: math.MaxInt64, Colours: 2},
		"no colours":            {Points: 3, Colours: 0},
		"fewer than no colours": {Points: 3, Colours: -1},
		"one colour too many":   {Points: 3, Colours: 5},
		"most colours":          {Points: 3, Colours: math.MaxInt64},
		"colour too great":      {Points: 3, Colours: 2, Edges: [136]byte{0, 2, 0}},
		"greatest byte":         {Points: 3, Colours: 4, Edges: [136]byte{0, 0, 255}},
		"last edge too great":   late,
		"behind the edges":      {Points: 3, Colours: 2, Edges: [136]byte{0, 0, 0, 1}},
		"last place":            {Points: 16, Colours: 2, Edges: [136]byte{135: 1}},
		"one point, one edge":   {Points: 1, Colours: 2, Edges: [136]byte{1}},
	}
}
