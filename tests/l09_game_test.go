package tests

import (
	"math"
	"slices"
	"strconv"
	"strings"
	"testing"

	"loop.example/g01362/impl"
)

// gameEdges returns the number of edges between n points.
func gameEdges(n int64) int64 { return n * (n - 1) / 2 }

// noneTaken returns the first position of n points.
func noneTaken(n int64) []int64 { return sameNumber(gameEdges(n), -1) }

// countOf returns how often a number is in a list.
func countOf(list []int64, number int64) int64 {
	count := int64(0)
	for _, other := range list {
		if other == number {
			count++
		}
	}
	return count
}

// trianglesOf returns the triangles of a player, each one as the numbers of its edges.
func trianglesOf(n int64, list []int64, player int64) [][]int64 {
	var triangles [][]int64
	for l := range n {
		for j := range l {
			for i := range j {
				edges := []int64{j*(j-1)/2 + i, l*(l-1)/2 + i, l*(l-1)/2 + j}
				if list[edges[0]] == player && list[edges[1]] == player && list[edges[2]] == player {
					triangles = append(triangles, edges)
				}
			}
		}
	}
	return triangles
}

// moverByDefinition returns the mover of a position.
func moverByDefinition(list []int64) int64 {
	if countOf(list, 0) == countOf(list, 1) {
		return 0
	}
	return 1
}

// isPositionByDefinition reports whether a list of as many numbers as told, in -1..1, is a position.
func isPositionByDefinition(n int64, list []int64) bool {
	if more := countOf(list, 0) - countOf(list, 1); more != 0 && more != 1 {
		return false
	}
	mover := moverByDefinition(list)
	if len(trianglesOf(n, list, mover)) > 0 {
		return false
	}
	others := trianglesOf(n, list, 1-mover)
	for e := range gameEdges(n) {
		without := slices.DeleteFunc(slices.Clone(others), func(edges []int64) bool { return slices.Contains(edges, e) })
		if len(without) == 0 {
			return true
		}
	}
	return len(others) == 0
}

// resultByDefinition returns the result of a position.
func resultByDefinition(n int64, list []int64) int64 {
	for player := range int64(2) {
		if len(trianglesOf(n, list, player)) > 0 {
			return 1 - player
		}
	}
	if countOf(list, -1) == 0 {
		return 2
	}
	return -1
}

// taken returns a list with an edge more for a player.
func taken(list []int64, e int64, player int64) []int64 {
	longer := slices.Clone(list)
	longer[e] = player
	return longer
}

// movesByDefinition returns the moves of a position.
func movesByDefinition(n int64, list []int64) []int64 {
	var moves []int64
	for e, number := range list {
		if number == -1 && resultByDefinition(n, list) == -1 {
			moves = append(moves, int64(e))
		}
	}
	return moves
}

// safeByDefinition returns the safe moves of a position.
func safeByDefinition(n int64, list []int64) []int64 {
	mover := moverByDefinition(list)
	return slices.DeleteFunc(movesByDefinition(n, list), func(e int64) bool {
		return len(trianglesOf(n, taken(list, e, mover), mover)) > 0
	})
}

// gameTable keeps the outcomes that the definition has given, by the texts of positions.
type gameTable map[string]int64

// gameText returns the text of a list.
func gameText(n int64, list []int64) string {
	text := strconv.FormatInt(n, 10) + ":"
	for _, number := range list {
		text += []string{".", "0", "1"}[number+1]
	}
	return text
}

// outcome returns the outcome of a position: the best one for the mover behind all moves.
func (g gameTable) outcome(n int64, list []int64) int64 {
	text := gameText(n, list)
	if known, ok := g[text]; ok {
		return known
	}
	outcome := resultByDefinition(n, list)
	if outcome == -1 {
		mover := moverByDefinition(list)
		var behind []int64
		for _, e := range movesByDefinition(n, list) {
			behind = append(behind, g.outcome(n, taken(list, e, mover)))
		}
		for _, wish := range []int64{1 - mover, 2, mover} {
			if slices.Contains(behind, wish) {
				outcome = wish
			}
		}
	}
	g[text] = outcome
	return outcome
}

// best returns the best moves of a position.
func (g gameTable) best(n int64, list []int64) []int64 {
	return slices.DeleteFunc(movesByDefinition(n, list), func(e int64) bool {
		return g.outcome(n, taken(list, e, moverByDefinition(list))) != g.outcome(n, list)
	})
}

// playOut returns the least best moves up to the end.
func (g gameTable) playOut(n int64, list []int64) []int64 {
	best := g.best(n, list)
	if len(best) == 0 {
		return nil
	}
	behind := taken(list, best[0], moverByDefinition(list))
	return append([]int64{best[0]}, g.playOut(n, behind)...)
}

// everyGameList calls a function with all lists of as many numbers as n points need, in -1..1.
func everyGameList(n int64, use func(list []int64)) {
	everyList(gameEdges(n), 3, func(given []int64) {
		list := slices.Clone(given)
		for e := range list {
			list[e]--
		}
		use(list)
	})
}

// everyPositionOf calls a function with all positions of n points.
func everyPositionOf(n int64, use func(list []int64)) {
	everyGameList(n, func(list []int64) {
		if isPositionByDefinition(n, list) {
			use(list)
		}
	})
}

// everyPosition calls a function with all positions of 1 to MaxGamePoints points.
func everyPosition(use func(n int64, list []int64)) {
	for n := int64(1); n <= 5; n++ {
		everyPositionOf(n, func(list []int64) { use(n, list) })
	}
}

// gameCall is a function of a position, and of a number or a list of points if it needs one; it
// returns whether all results are zero values, and the code.
type gameCall func(n int64, list []int64) (bool, int64)

// withList returns the call of a function that returns a list.
func withList(call func(n int64, list []int64) ([]int64, int64)) gameCall {
	return func(n int64, list []int64) (bool, int64) {
		result, code := call(n, list)
		return len(result) == 0, code
	}
}

// withNumber returns the call of a function that returns a number.
func withNumber(call func(n int64, list []int64) (int64, int64)) gameCall {
	return func(n int64, list []int64) (bool, int64) {
		result, code := call(n, list)
		return result == 0, code
	}
}

// gameCalls returns the functions of a position that have a code; MakeMove makes a move e, and
// RenumberPosition has a list p.
func gameCalls(e int64, p []int64) map[string]gameCall {
	return map[string]gameCall{
		"MoverOf":       withNumber(impl.MoverOf),
		"ResultOf":      withNumber(impl.ResultOf),
		"MovesOf":       withList(impl.MovesOf),
		"SafeMoves":     withList(impl.SafeMoves),
		"OutcomeOf":     withNumber(impl.OutcomeOf),
		"BestMoves":     withList(impl.BestMoves),
		"PlayOut":       withList(impl.PlayOut),
		"LeastPosition": withList(impl.LeastPosition),
		"MakeMove": withList(func(n int64, list []int64) ([]int64, int64) {
			return impl.MakeMove(n, list, e)
		}),
		"RenumberPosition": withList(func(n int64, list []int64) ([]int64, int64) {
			return impl.RenumberPosition(n, list, p)
		}),
		"PositionText": func(n int64, list []int64) (bool, int64) {
			text, code := impl.PositionText(n, list)
			return text == "", code
		},
	}
}

// wantGameError checks that all functions of a position return a code, and zero values.
func wantGameError(t *testing.T, n int64, list []int64, e int64, p []int64, want int64) {
	t.Helper()
	if impl.IsPosition(n, list) {
		t.Errorf("IsPosition of %d and %v is true", n, list)
	}
	for name, call := range gameCalls(e, p) {
		if zero, code := call(n, list); !zero || code != want {
			t.Errorf("%s of %d and %v (with %d and %v) returns the code %d, not %d, and zero values: %v", name, n, list, e, p, code, want, zero)
		}
	}
}

func TestL09Constants(t *testing.T) {
	if impl.MaxGamePoints != 5 {
		t.Errorf("MaxGamePoints is %d", impl.MaxGamePoints)
	}
}

// All lists of 1 to 5 points are positions, or ErrInvalid, by the definition.
func TestL09EveryListAgainstTheDefinition(t *testing.T) {
	for n := int64(1); n <= 5; n++ {
		everyGameList(n, func(list []int64) {
			if want := isPositionByDefinition(n, list); impl.IsPosition(n, list) != want {
				t.Errorf("IsPosition of %d and %v is %v", n, list, !want)
			} else if !want {
				wantGameError(t, n, list, 0, upTo(n), impl.ErrInvalid)
			}
		})
	}
}

// gameCase has a number of points, a list, and whether it is a position.
type gameCase struct {
	n    int64
	list []int64
	want bool
}

func TestL09IsPosition(t *testing.T) {
	for _, c := range []gameCase{
		{1, nil, true}, {1, []int64{}, true}, {2, []int64{-1}, true}, {2, []int64{0}, true}, {2, []int64{1}, false},
		{5, noneTaken(5), true},
		// The player 1 has more edges, or the player 0 two more.
		{3, []int64{-1, 1, -1}, false}, {3, []int64{0, 1, 1}, false}, {3, []int64{0, 0, -1}, false}, {3, []int64{0, 0, 0}, false}, {4, []int64{0, 0, 1, -1, 0, -1}, false},
		// The mover has a triangle.
		{4, []int64{0, 0, 0, 1, 1, 1}, false}, {5, []int64{1, 1, 1, 0, 0, -1, 0, 0, -1, -1}, false}, {4, []int64{0, 0, 0, 1, 1, -1}, true}, {5, []int64{1, 1, 1, 0, 0, -1, 0, -1, -1, -1}, true},
		// Both have a triangle: 0 1 2 and 2 3 4.
		{5, []int64{0, 0, 0, -1, -1, 1, -1, -1, 1, 1}, false}, {5, []int64{0, 0, 0, 0, -1, 1, -1, -1, 1, 1}, false}, {5, []int64{0, 0, 0, 0, 1, 1, -1, -1, 1, 1}, false},
		// The player 0 has 0 1 2 and 0 1 3, with the edge 0 of both.
		{5, []int64{0, 0, 0, 0, 0, 1, 1, 1, 1, -1}, true},
		// And 0 1 4, with it also.
		{5, []int64{0, 0, 0, 0, 0, 1, 0, 0, 1, 1}, false}, {5, []int64{0, 0, 0, 0, 0, -1, 0, 0, -1, -1}, false},
		// It has 0 1 2 and 2 3 4, without an edge of both: six edges, which are always too many.
		{5, []int64{0, 0, 0, 1, 1, 0, 1, 1, 0, 0}, false}, {5, []int64{0, 0, 0, -1, 1, 0, 1, 1, 0, 0}, false}, {5, []int64{0, 0, 0, -1, -1, 0, -1, -1, 0, 0}, false},
		// The player 1 has two triangles with an edge of both, but then the player 0 has one, too, or more edges than it may have.
		{5, []int64{1, 1, 1, 1, 1, 0, 0, 0, 0, 0}, false}, {5, []int64{1, 1, 1, 1, 1, -1, 0, 0, 0, 0}, false}, {5, []int64{1, 1, 1, 1, 1, 1, 0, 0, 0, 0}, false},
	} {
		if impl.IsPosition(c.n, c.list) != c.want || isPositionByDefinition(c.n, c.list) != c.want {
			t.Errorf("IsPosition of %d and %v is %v", c.n, c.list, !c.want)
		}
	}
}

func TestL09WrongNumbersOfPoints(t *testing.T) {
	for _, n := range append(outside(1, 5), 0, 6, 7, math.MaxInt64-1, 1<<62, 1<<33) {
		for length := range int64(30) {
			for _, number := range []int64{-1, 0, 1, 2} {
				wantGameError(t, n, sameNumber(length, number), 0, nil, impl.ErrRange)
			}
		}
	}
}

func TestL09ListsOfWrongLengths(t *testing.T) {
	for n := int64(1); n <= 5; n++ {
		for length := range int64(30) {
			if length == gameEdges(n) {
				continue
			}
			for _, number := range []int64{-1, 0, 1, 2} {
				wantGameError(t, n, sameNumber(length, number), 0, upTo(n), impl.ErrRange)
			}
		}
		wantGameError(t, n, sameNumber(100000, -1), 0, upTo(n), impl.ErrRange)
	}
}

func TestL09WrongNumbersInLists(t *testing.T) {
	for _, wrong := range outside(-1, 1) {
		if -1 <= wrong && wrong <= 1 {
			continue
		}
		for n := int64(2); n <= 5; n++ {
			for place := range gameEdges(n) {
				for _, list := range [][]int64{noneTaken(n), sameNumber(gameEdges(n), 0), sameNumber(gameEdges(n), 1)} {
					wantGameError(t, n, taken(list, place, wrong), 0, upTo(n), impl.ErrRange)
				}
			}
		}
	}
}

// What is out of range is told before a list that is no position, and both before a position that is
// over or an edge that is not free.
func TestL09OrderOfErrors(t *testing.T) {
	valid, invalid, over := []int64{0, -1, -1, -1, -1, -1}, []int64{1, -1, -1, -1, -1, -1}, []int64{0, 0, 0, 1, 1, -1}
	for _, list := range [][]int64{valid, invalid, over, {2, -1, -1, -1, -1, -1}, {}, noneTaken(5)} {
		for _, e := range outside(0, 5) {
			if 0 <= e && e <= 5 {
				continue
			}
			behind, code := impl.MakeMove(4, list, e)
			wantList(t, "MakeMove of no edge", behind, code, nil, impl.ErrRange)
		}
		for _, p := range [][]int64{nil, {0}, {0, 1, 2}, {0, 1, 2, 3, 4}, {0, 1, 2, 2}, {0, 0, 1, 2}, {1, 2, 3, 4}, {-1, 0, 1, 2}, {0, 1, 2, 4}, {3, 2, 1, -4}, {0, 1, 2, math.MinInt64}, {math.MaxInt64, 1, 2, 3}, {1 << 32, 1, 2, 3}} {
			other, code := impl.RenumberPosition(4, list, p)
			wantList(t, "RenumberPosition by no list of the points", other, code, nil, impl.ErrRange)
		}
	}
	for e := range int64(6) {
		behind, code := impl.MakeMove(4, invalid, e)
		wantList(t, "MakeMove of no position", behind, code, nil, impl.ErrInvalid)
		behind, code = impl.MakeMove(4, over, e)
		wantList(t, "MakeMove of a position that is over", behind, code, nil, impl.ErrState)
	}
	everyOrder(4, nil, func(p []int64) {
		other, code := impl.RenumberPosition(4, invalid, p)
		wantList(t, "RenumberPosition of no position", other, code, nil, impl.ErrInvalid)
	})
	behind, code := impl.MakeMove(4, valid, 0)
	wantList(t, "MakeMove of an edge that is taken", behind, code, nil, impl.ErrState)
	best, code := impl.BestMoves(4, over)
	wantList(t, "BestMoves of a position that is over", best, code, nil, impl.ErrState)
	// One point has no edges, and is over.
	for _, e := range []int64{0, -1, 1} {
		behind, code = impl.MakeMove(1, nil, e)
		wantList(t, "MakeMove of one point", behind, code, nil, impl.ErrRange)
	}
}

// moverCase has a position, its mover and its result.
type moverCase struct {
	n             int64
	list          []int64
	mover, result int64
}

func TestL09MoverAndResult(t *testing.T) {
	for _, c := range []moverCase{
		{1, nil, 0, 2}, {2, []int64{-1}, 0, -1}, {2, []int64{0}, 1, 2},
		{3, []int64{-1, -1, -1}, 0, -1}, {3, []int64{-1, 0, -1}, 1, -1}, {3, []int64{1, 0, -1}, 0, -1}, {3, []int64{1, 0, 0}, 1, 2},
		// A triangle of the player 0, and one of the player 1.
		{4, []int64{0, 0, 0, 1, 1, -1}, 1, 1}, {4, []int64{0, 1, -1, 0, 1, 0}, 1, -1}, {4, []int64{1, 1, 1, 0, 0, 0}, 0, 0},
		{5, []int64{1, 1, 1, 0, 0, -1, 0, -1, -1, -1}, 0, 0},
		// No edge is free, and the last one made a triangle.
		{4, []int64{0, 1, 0, 1, 0, 1}, 0, 0}, {5, []int64{1, 1, 1, 0, 0, 0, 0, 0, 1, 1}, 0, 0},
		// No edge is free, but nobody has a triangle.
		{3, []int64{0, 0, 1}, 1, 2}, {4, []int64{0, 0, 1, 1, 0, 1}, 0, 2}, {4, []int64{0, 1, 0, 0, 1, 1}, 0, 2}, {5, []int64{0, 1, 0, 1, 1, 0, 0, 1, 1, 0}, 0, 2},
		{5, noneTaken(5), 0, -1}, {5, []int64{0, 0, 1, 1, -1, -1, -1, -1, -1, -1}, 0, -1},
		{5, []int64{0, 0, 0, 0, 0, 1, 1, 1, 1, -1}, 1, 1},
	} {
		mover, code := impl.MoverOf(c.n, c.list)
		wantNumber(t, "MoverOf of "+gameText(c.n, c.list), mover, code, c.mover, impl.ErrNone)
		result, code := impl.ResultOf(c.n, c.list)
		wantNumber(t, "ResultOf of "+gameText(c.n, c.list), result, code, c.result, impl.ErrNone)
	}
}

func TestL09EveryPositionAgainstTheDefinition(t *testing.T) {
	everyPosition(func(n int64, list []int64) {
		text := gameText(n, list)
		mover, code := impl.MoverOf(n, list)
		wantNumber(t, "MoverOf of "+text, mover, code, moverByDefinition(list), impl.ErrNone)
		result, code := impl.ResultOf(n, list)
		wantNumber(t, "ResultOf of "+text, result, code, resultByDefinition(n, list), impl.ErrNone)
		moves, code := impl.MovesOf(n, list)
		wantList(t, "MovesOf of "+text, moves, code, movesByDefinition(n, list), impl.ErrNone)
		safe, code := impl.SafeMoves(n, list)
		wantList(t, "SafeMoves of "+text, safe, code, safeByDefinition(n, list), impl.ErrNone)
		for e := range gameEdges(n) {
			behind, code := impl.MakeMove(n, list, e)
			if slices.Contains(moves, e) {
				wantList(t, "MakeMove of "+text, behind, code, taken(list, e, mover), impl.ErrNone)
			} else {
				wantList(t, "MakeMove of an edge that is no move in "+text, behind, code, nil, impl.ErrState)
			}
		}
	})
}

// movesCase has a position, its moves and its safe moves.
type movesCase struct {
	n           int64
	list        []int64
	moves, safe []int64
}

func TestL09Moves(t *testing.T) {
	for _, c := range []movesCase{
		{1, nil, nil, nil}, {2, []int64{-1}, []int64{0}, []int64{0}}, {2, []int64{0}, nil, nil},
		{3, noneTaken(3), upTo(3), upTo(3)}, {3, []int64{0, -1, 1}, []int64{1}, []int64{1}},
		{5, noneTaken(5), upTo(10), upTo(10)},
		// Over by a triangle with a free edge left, and because none is left.
		{4, []int64{0, 0, 0, 1, 1, -1}, nil, nil}, {5, []int64{1, 1, 1, 0, 0, -1, 0, -1, -1, -1}, nil, nil}, {4, []int64{0, 0, 1, 1, 0, 1}, nil, nil},
		// Only the mover's own triangles count.
		{4, []int64{0, 0, -1, 1, 1, -1}, []int64{2, 5}, []int64{5}}, {4, []int64{0, 0, -1, 1, -1, -1}, []int64{2, 4, 5}, []int64{2, 4, 5}},
		{4, []int64{1, 1, -1, 0, 0, 0}, []int64{2}, nil}, {4, []int64{0, 1, -1, 0, 1, 0}, []int64{2}, []int64{2}},
		{5, []int64{0, 1, 0, 1, 1, 0, 0, 1, -1, 0}, []int64{8}, []int64{8}},
		// No move is safe, but there are two.
		{5, []int64{0, 0, -1, 1, 1, 0, 1, 1, 0, -1}, []int64{2, 9}, nil},
	} {
		moves, code := impl.MovesOf(c.n, c.list)
		wantList(t, "MovesOf of "+gameText(c.n, c.list), moves, code, c.moves, impl.ErrNone)
		safe, code := impl.SafeMoves(c.n, c.list)
		wantList(t, "SafeMoves of "+gameText(c.n, c.list), safe, code, c.safe, impl.ErrNone)
	}
}

// The moves from the first position on lead to all positions, and to nothing else.
func TestL09PlayLeadsToEveryPosition(t *testing.T) {
	for n := int64(1); n <= 5; n++ {
		reached := map[string]bool{gameText(n, noneTaken(n)): true}
		for queue := [][]int64{noneTaken(n)}; len(queue) > 0; queue = queue[1:] {
			moves, code := impl.MovesOf(n, queue[0])
			if code != impl.ErrNone {
				t.Errorf("MovesOf of %d and %v returns the code %d", n, queue[0], code)
			}
			for _, e := range moves {
				behind, code := impl.MakeMove(n, queue[0], e)
				text := gameText(n, behind)
				if code != impl.ErrNone || !impl.IsPosition(n, behind) {
					t.Errorf("MakeMove of %d, %v and %d returns %v and %d", n, queue[0], e, behind, code)
				}
				if !reached[text] {
					reached[text] = true
					queue = append(queue, behind)
				}
			}
		}
		positions := 0
		everyPositionOf(n, func(list []int64) {
			positions++
			if !reached[gameText(n, list)] {
				t.Errorf("no moves lead to %d and %v", n, list)
			}
		})
		if positions != len(reached) {
			t.Errorf("moves lead to %d positions of %d points, not %d", len(reached), n, positions)
		}
	}
}

func TestL09OutcomesAgainstTheDefinition(t *testing.T) {
	table := gameTable{}
	everyPosition(func(n int64, list []int64) {
		text := gameText(n, list)
		outcome, code := impl.OutcomeOf(n, list)
		wantNumber(t, "OutcomeOf of "+text, outcome, code, table.outcome(n, list), impl.ErrNone)
		played, code := impl.PlayOut(n, list)
		wantList(t, "PlayOut of "+text, played, code, table.playOut(n, list), impl.ErrNone)
		best, code := impl.BestMoves(n, list)
		if resultByDefinition(n, list) == -1 {
			wantList(t, "BestMoves of "+text, best, code, table.best(n, list), impl.ErrNone)
		} else {
			wantList(t, "BestMoves of the position "+text+", which is over", best, code, nil, impl.ErrState)
		}
	})
}

// outcomeCase has the text of a position, its outcome, its best moves, and the least ones up to the
// end.
type outcomeCase struct {
	text       string
	outcome    int64
	best, play []int64
}

func TestL09Outcomes(t *testing.T) {
	for _, c := range []outcomeCase{
		// No edge taken.
		{"2:.", 2, []int64{0}, []int64{0}}, {"3:...", 2, upTo(3), upTo(3)}, {"4:......", 2, upTo(6), []int64{0, 1, 2, 4, 3, 5}},
		{"5:..........", 2, upTo(10), []int64{0, 1, 2, 4, 3, 5, 8, 6, 9, 7}},
		// Not all first answers are best: not those without a point of the first edge.
		{"5:0.........", 2, []int64{1, 2, 3, 4, 6, 7}, []int64{1, 2, 4, 3, 5, 8, 6, 9, 7}}, {"5:.....0.1..", 0, []int64{1, 3}, []int64{1, 0, 9, 2, 4, 3, 6, 8}},
		// Every move loses: of the player 0, also where none is safe, and of the player 1.
		{"5:....0110..", 1, []int64{0, 1, 2, 3, 8, 9}, []int64{0, 1, 2, 9, 3}}, {"5:00.110110.", 1, []int64{2, 9}, []int64{2}}, {"4:11.000", 0, []int64{2}, []int64{2}},
		{"5:.....100..", 0, []int64{0, 1, 2, 3, 4, 8, 9}, []int64{0, 1, 2, 3, 4}},
		// One move wins, though others are safe.
		{"5:.....10100", 1, []int64{0}, []int64{0, 1}}, {"5:.....101.0", 0, []int64{0}, []int64{0, 1, 2, 3}}, {"4:00.11.", 2, []int64{5}, []int64{5, 2}},
	} {
		n, list, code := impl.ParsePosition(c.text)
		if code != impl.ErrNone {
			t.Errorf("ParsePosition(%q) returns the code %d", c.text, code)
		}
		outcome, code := impl.OutcomeOf(n, list)
		wantNumber(t, "OutcomeOf of "+c.text, outcome, code, c.outcome, impl.ErrNone)
		best, code := impl.BestMoves(n, list)
		wantList(t, "BestMoves of "+c.text, best, code, c.best, impl.ErrNone)
		played, code := impl.PlayOut(n, list)
		wantList(t, "PlayOut of "+c.text, played, code, c.play, impl.ErrNone)
	}
}

func TestL09OutcomesOfPositionsThatAreOver(t *testing.T) {
	for text, want := range map[string]int64{
		"1:": 2, "2:0": 2, "3:001": 2, "4:001101": 2, "4:00011.": 1, "4:010101": 0, "5:11100.0...": 0, "5:000001111.": 1, "5:1110000011": 0, "5:0101100110": 2,
	} {
		n, list, code := impl.ParsePosition(text)
		if code != impl.ErrNone {
			t.Errorf("ParsePosition(%q) returns the code %d", text, code)
		}
		outcome, code := impl.OutcomeOf(n, list)
		wantNumber(t, "OutcomeOf of "+text, outcome, code, want, impl.ErrNone)
		result, code := impl.ResultOf(n, list)
		wantNumber(t, "ResultOf of "+text, result, code, want, impl.ErrNone)
		best, code := impl.BestMoves(n, list)
		wantList(t, "BestMoves of "+text, best, code, nil, impl.ErrState)
		played, code := impl.PlayOut(n, list)
		wantList(t, "PlayOut of "+text, played, code, nil, impl.ErrNone)
	}
}

// Promise 9: moves lead to positions, and best moves keep the outcome; no other move does better.
func TestL09MovesLeadToPositionsAndBestMovesKeepTheOutcome(t *testing.T) {
	everyPosition(func(n int64, list []int64) {
		moves, _ := impl.MovesOf(n, list)
		if len(moves) == 0 {
			return
		}
		best, code := impl.BestMoves(n, list)
		if code != impl.ErrNone || len(best) == 0 {
			t.Errorf("BestMoves of %d and %v returns %v and %d", n, list, best, code)
		}
		outcome, _ := impl.OutcomeOf(n, list)
		mover, _ := impl.MoverOf(n, list)
		for _, e := range moves {
			behind, code := impl.MakeMove(n, list, e)
			if code != impl.ErrNone || !impl.IsPosition(n, behind) {
				t.Errorf("MakeMove of %d, %v and %d returns %v and %d, which is no position", n, list, e, behind, code)
			}
			other, _ := impl.OutcomeOf(n, behind)
			if slices.Contains(best, e) != (other == outcome) || other == mover && outcome != mover || other == 2 && outcome == 1-mover {
				t.Errorf("the move %d of %d and %v has the outcome %d, the position %d, and %v are best", e, n, list, other, outcome, best)
			}
		}
	})
}

// The moves of PlayOut are least best moves, and lead to an end with the outcome as its result.
func TestL09PlayOutLeadsToTheOutcome(t *testing.T) {
	everyPosition(func(n int64, list []int64) {
		want, _ := impl.OutcomeOf(n, list)
		played, code := impl.PlayOut(n, list)
		if code != impl.ErrNone {
			t.Errorf("PlayOut of %d and %v returns the code %d", n, list, code)
		}
		end := list
		for _, e := range played {
			best, code := impl.BestMoves(n, end)
			if code != impl.ErrNone || best[0] != e {
				t.Errorf("PlayOut of %d and %v makes the move %d, of %v and %d", n, list, e, best, code)
			}
			end, _ = impl.MakeMove(n, end, e)
		}
		result, code := impl.ResultOf(n, end)
		wantNumber(t, "ResultOf of what PlayOut leads to", result, code, want, impl.ErrNone)
	})
}

// renumberedByDefinition returns a list with the number of each edge at that of its new points.
func renumberedByDefinition(n int64, list []int64, p []int64) []int64 {
	other := slices.Clone(list)
	for j := range n {
		for i := range j {
			low, high := min(p[i], p[j]), max(p[i], p[j])
			other[high*(high-1)/2+low] = list[j*(j-1)/2+i]
		}
	}
	return other
}

// checkRenumbering compares a position renumbered by some lists, and the least one, with the
// definitions; the least one is not known before all lists are used.
func checkRenumbering(t *testing.T, n int64, list []int64, orders [][]int64) {
	t.Helper()
	least := slices.Clone(list)
	for _, p := range orders {
		want := renumberedByDefinition(n, list, p)
		other, code := impl.RenumberPosition(n, list, p)
		wantList(t, "RenumberPosition", other, code, want, impl.ErrNone)
		if slices.Compare(want, least) < 0 {
			least = want
		}
	}
	found, code := impl.LeastPosition(n, list)
	wantList(t, "LeastPosition of "+gameText(n, list), found, code, least, impl.ErrNone)
	again, code := impl.LeastPosition(n, found)
	wantList(t, "LeastPosition of the least one", again, code, least, impl.ErrNone)
}

func TestL09RenumberingAgainstTheDefinition(t *testing.T) {
	for n := int64(1); n <= 5; n++ {
		var orders [][]int64
		everyOrder(n, nil, func(p []int64) { orders = append(orders, p) })
		count := 0
		everyPositionOf(n, func(list []int64) {
			// All positions of few points, and some of 5 points.
			if count++; n < 5 || count%16 == 0 {
				checkRenumbering(t, n, list, orders)
			}
		})
	}
}

// renumberCase has a position, a list of its points, and the position renumbered.
type renumberCase struct {
	n             int64
	list, p, want []int64
}

func TestL09RenumberPosition(t *testing.T) {
	for _, c := range []renumberCase{
		{1, nil, []int64{0}, nil}, {2, []int64{0}, []int64{0, 1}, []int64{0}}, {2, []int64{0}, []int64{1, 0}, []int64{0}},
		{3, []int64{0, -1, 1}, []int64{0, 1, 2}, []int64{0, -1, 1}}, {3, []int64{0, -1, 1}, []int64{1, 2, 0}, []int64{-1, 1, 0}}, {3, []int64{0, -1, 1}, []int64{2, 0, 1}, []int64{1, 0, -1}},
		{4, []int64{0, 1, -1, -1, -1, -1}, []int64{3, 2, 1, 0}, []int64{-1, -1, -1, -1, 1, 0}},
		// A position that is over, and 5 points as they are.
		{4, []int64{0, 0, 0, 1, 1, -1}, []int64{1, 2, 3, 0}, []int64{1, 1, 0, -1, 0, 0}},
		{5, []int64{0, 1, 0, 1, -1, -1, -1, -1, -1, -1}, upTo(5), []int64{0, 1, 0, 1, -1, -1, -1, -1, -1, -1}},
		{5, []int64{0, 1, 0, 1, -1, -1, -1, -1, -1, -1}, []int64{4, 0, 2, 1, 3}, []int64{-1, 0, -1, -1, -1, -1, 0, 1, 1, -1}},
	} {
		other, code := impl.RenumberPosition(c.n, c.list, c.p)
		wantList(t, "RenumberPosition of "+gameText(c.n, c.list), other, code, c.want, impl.ErrNone)
	}
}

func TestL09LeastPosition(t *testing.T) {
	for _, c := range []struct{ text, want string }{
		{"1:", "1:"}, {"2:.", "2:."}, {"2:0", "2:0"}, {"3:0..", "3:..0"}, {"3:10.", "3:.01"}, {"3:.01", "3:.01"}, {"4:01....", "4:....01"},
		{"5:0.........", "5:.........0"}, {"5:..........", "5:.........."}, {"4:00011.", "4:.01010"}, {"4:.01010", "4:.01010"}, {"5:0101100110", "5:0011011100"},
	} {
		n, list, _ := impl.ParsePosition(c.text)
		least, code := impl.LeastPosition(n, list)
		if code != impl.ErrNone || gameText(n, least) != c.want {
			t.Errorf("LeastPosition of %s returns %v and %d, not %s", c.text, least, code, c.want)
		}
	}
}

// The outcome, the result, and the moves at their new places are those of a renumbered position.
func TestL09OutcomesOfRenumberedPositions(t *testing.T) {
	check := func(n int64, list []int64, p []int64) {
		other, code := impl.RenumberPosition(n, list, p)
		if code != impl.ErrNone || !impl.IsPosition(n, other) {
			t.Errorf("RenumberPosition of %d, %v and %v returns %v and %d", n, list, p, other, code)
		}
		want, _ := impl.OutcomeOf(n, list)
		outcome, code := impl.OutcomeOf(n, other)
		wantNumber(t, "OutcomeOf of a renumbered position", outcome, code, want, impl.ErrNone)
		best, code := impl.BestMoves(n, list)
		if code != impl.ErrNone {
			return
		}
		// The edges that are best make a list that is renumbered as the position is.
		marks := make([]int64, gameEdges(n))
		for _, e := range best {
			marks[e] = 1
		}
		marks = renumberedByDefinition(n, marks, p)
		var wantBest []int64
		for e, mark := range marks {
			if mark == 1 {
				wantBest = append(wantBest, int64(e))
			}
		}
		best, code = impl.BestMoves(n, other)
		wantList(t, "BestMoves of a renumbered position", best, code, wantBest, impl.ErrNone)
	}
	for n := int64(1); n <= 4; n++ {
		everyPositionOf(n, func(list []int64) {
			everyOrder(n, nil, func(p []int64) { check(n, list, p) })
		})
	}
	seed := uint64(0)
	everyPositionOf(5, func(list []int64) {
		if seed++; seed%8 == 0 {
			check(5, list, mixedList(5, seed))
		}
	})
}

// Positions come back from their texts.
func TestL09TextsComeBack(t *testing.T) {
	everyPosition(func(n int64, list []int64) {
		text, code := impl.PositionText(n, list)
		if want := gameText(n, list); text != want || code != impl.ErrNone {
			t.Errorf("PositionText of %d and %v returns %q and %d", n, list, text, code)
		}
		backN, back, code := impl.ParsePosition(text)
		if backN != n || !slices.Equal(back, list) || code != impl.ErrNone {
			t.Errorf("ParsePosition(%q) returns %d, %v and %d", text, backN, back, code)
		}
	})
	for text, list := range map[string][]int64{"1:": nil, "2:.": {-1}, "3:0.1": {0, -1, 1}, "5:01........": {0, 1, -1, -1, -1, -1, -1, -1, -1, -1}} {
		n := int64(text[0] - '0')
		got, code := impl.PositionText(n, list)
		if got != text || code != impl.ErrNone {
			t.Errorf("PositionText of %d and %v returns %q and %d", n, list, got, code)
		}
	}
}

// wantNoPosition checks that a text is that of no position.
func wantNoPosition(t *testing.T, text string) {
	t.Helper()
	n, list, code := impl.ParsePosition(text)
	if n != 0 || len(list) != 0 || code != impl.ErrSyntax {
		t.Errorf("ParsePosition(%.40q) returns %d, %v and %d", text, n, list, code)
	}
}

func TestL09WrongTexts(t *testing.T) {
	for _, text := range []string{
		"", ":", "1", "2", "3", "...", ":...", "3...", "3;...", "3,...", "n:...",
		// A sign, zeros before the number, other bases, a point, a number outside.
		"+3:...", "-3:...", "03:...", "003:...", "00001:", "0x3:...", "3_:...", "0_3:...", "3.0:...", "3e0:...", "0:", "-1:", "-0:", "6:", "6:...............", "10:", "18446744073709551619:...", "9223372036854775807:", "9223372036854775808:", "-9223372036854775808:", "99999999999999999999999999:", "4294967299:...", "\u0663:...", "\uff13:...",
		// A wrong sign, too few and too many of them.
		"3:0.2", "3:0.-", "3:0,1", "3:0.x", "3:0./", "3:0.\x00", "3:0.\xff", "3:0.\u00b7", "2:\u0660", "3:", "3:0", "3:0.", "3:0.1.", "3:0.10", "1:.", "1:0", "2:", "2:..", "5:.........", "5:...........",
		// Blanks, newlines, commas, a colon more.
		" 3:0.1", "3 :0.1", "3: 0.1", "3:0 .1", "3:0.1 ", "3:0.1\n", "\n3:0.1", "\t3:0.1", "3:0.1\r\n", "3:0,.,1", "3::0.1", "3:0.1:", "3:0:1", "3:\"0.1\"",
		// No position: too many edges of a player, or a triangle of the mover.
		"3:1..", "2:1", "3:00.", "3:000", "3:011", "4:000111", "5:00000.00..", "5:1111100000", "3:-1-1-1",
	} {
		wantNoPosition(t, text)
	}
	long := strings.Repeat(".", 1000000)
	for _, text := range []string{long, "5:" + long, long + ":..........", strings.Repeat("0", 1000000) + "5:..........", strings.Repeat("5:", 500000), strings.Repeat("9", 1000000) + ":"} {
		wantNoPosition(t, text)
	}
}

// A text with one byte changed, left out or put in is that of another position, or of none.
func TestL09ChangedTexts(t *testing.T) {
	check := func(text string) {
		n, list, code := impl.ParsePosition(text)
		if code != impl.ErrNone {
			wantNoPosition(t, text)
		} else if back, _ := impl.PositionText(n, list); back != text {
			t.Errorf("ParsePosition(%q) returns the position with the text %q", text, back)
		}
	}
	for _, text := range []string{"1:", "2:.", "3:0.1", "4:00.11.", "5:0.1....0.1"} {
		for place := range len(text) + 1 {
			for b := range 256 {
				put := string([]byte{byte(b)})
				check(text[:place] + put + text[place:])
				if place < len(text) {
					check(text[:place] + put + text[place+1:])
				}
			}
			if place < len(text) {
				check(text[:place] + text[place+1:])
			}
		}
	}
}

// gameLists returns lists of 4 points: positions, one that is over, and others.
func gameLists() [][]int64 {
	return [][]int64{noneTaken(4), {0, 0, -1, 1, 1, -1}, {0, 1, 0, -1, -1, -1}, {0, 0, 0, 1, 1, -1}, {1, 0, 1, 0, -1, -1}, {1, 1, -1, -1, -1, -1}, {0, 0, 0, 2, 1, -1}, {0, 1}, nil}
}

func TestL09ListsStayAsTheyAre(t *testing.T) {
	for _, list := range gameLists() {
		for _, p := range [][]int64{{0, 1, 2, 3}, {3, 1, 0, 2}, {3, 1, 0}, {3, 3, 2, 2}} {
			for e := int64(-1); e <= 6; e++ {
				given, order := withSpare(list...), withSpare(p...)
				for name, call := range gameCalls(e, order) {
					call(4, given)
					impl.IsPosition(4, given)
					if !slices.Equal(given[:len(list)+3], append(slices.Clone(list), 77, 77, 77)) || !slices.Equal(order[:len(p)+3], append(slices.Clone(p), 77, 77, 77)) {
						t.Fatalf("%s changes %v to %v, or %v to %v", name, list, given[:len(list)+3], p, order[:len(p)+3])
					}
				}
			}
		}
	}
}

// Writing to a result, or behind it, must not show in an argument or in another result.
func TestL09ResultsAreNew(t *testing.T) {
	list, order := []int64{-1, -1, 1, 0, 0, 1}, upTo(4)
	for name, call := range map[string]func() []int64{
		"MovesOf":          func() []int64 { moves, _ := impl.MovesOf(4, list); return moves },
		"SafeMoves":        func() []int64 { moves, _ := impl.SafeMoves(4, list); return moves },
		"MakeMove":         func() []int64 { behind, _ := impl.MakeMove(4, list, 1); return behind },
		"BestMoves":        func() []int64 { moves, _ := impl.BestMoves(4, list); return moves },
		"PlayOut":          func() []int64 { moves, _ := impl.PlayOut(4, list); return moves },
		"RenumberPosition": func() []int64 { other, _ := impl.RenumberPosition(4, list, order); return other },
		"LeastPosition":    func() []int64 { least, _ := impl.LeastPosition(4, list); return least },
		"ParsePosition":    func() []int64 { _, parsed, _ := impl.ParsePosition("4:..1001"); return parsed },
	} {
		first := call()
		kept := slices.Clone(first)
		if len(first) == 0 {
			t.Errorf("%s returns nothing", name)
		}
		for i := range first[:cap(first)] {
			first[:cap(first)][i] = 99
		}
		if second := call(); !slices.Equal(second, kept) || !slices.Equal(list, []int64{-1, -1, 1, 0, 0, 1}) || !slices.Equal(order, upTo(4)) {
			t.Errorf("a result of %s is changed: %v and %v, and the position %v", name, second, kept, list)
		}
	}
	// The least position already is new, too.
	least, _ := impl.LeastPosition(4, list)
	again, _ := impl.LeastPosition(4, least)
	again[0] = 99
	if least[0] == 99 {
		t.Errorf("LeastPosition returns the position that it is given")
	}
}

// What one call finds, or does not, must not show in the next one.
func TestL09NoStateIsKept(t *testing.T) {
	for range 3 {
		for _, list := range gameLists() {
			impl.PlayOut(4, list)
			impl.OutcomeOf(5, list)
		}
		outcome, code := impl.OutcomeOf(4, []int64{1, 1, -1, 0, 0, 0})
		wantNumber(t, "OutcomeOf after others", outcome, code, 0, impl.ErrNone)
		played, code := impl.PlayOut(4, noneTaken(4))
		wantList(t, "PlayOut after others", played, code, []int64{0, 1, 2, 4, 3, 5}, impl.ErrNone)
		outcome, code = impl.OutcomeOf(4, noneTaken(4))
		wantNumber(t, "OutcomeOf of 4 points", outcome, code, 2, impl.ErrNone)
	}
}

// The positions with the most positions behind them.
func TestL09OutcomesReturnSoon(t *testing.T) {
	soon(t, "a game of 5 points", func() {
		for range 10 {
			outcome, code := impl.OutcomeOf(5, noneTaken(5))
			wantNumber(t, "OutcomeOf of 5 points", outcome, code, 2, impl.ErrNone)
			best, code := impl.BestMoves(5, noneTaken(5))
			wantList(t, "BestMoves of 5 points", best, code, upTo(10), impl.ErrNone)
			played, code := impl.PlayOut(5, noneTaken(5))
			wantList(t, "PlayOut of 5 points", played, code, []int64{0, 1, 2, 4, 3, 5, 8, 6, 9, 7}, impl.ErrNone)
		}
	})
}
