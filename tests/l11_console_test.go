package tests

import (
	"fmt"
	"regexp"
	"slices"
	"strconv"
	"strings"
	"testing"

	"loop.example/g01362/impl"
)

// lineCall is what a line with numbers does on a desk: it returns the desk behind it, the output, and
// the code of its function.
type lineCall func(d impl.Desk, n []int64) (impl.Desk, string, int64)

// tableLine is a line of the table of chapter 11.
type tableLine struct {
	takes int // how many numbers, or anyNumber
	call  lineCall
}

const anyNumber = -1

// told returns a result as the chapter puts it out.
func told(result any) string {
	switch r := result.(type) {
	case bool:
		return map[bool]string{true: "yes", false: "no"}[r]
	case []int64:
		if len(r) == 0 {
			return "none"
		}
		return strings.Trim(fmt.Sprint(r), "[]")
	case [][]int64:
		if len(r) == 0 {
			return "none"
		}
		return strings.ReplaceAll(strings.Trim(fmt.Sprint(r), "[]"), "] [", ";")
	case impl.Colouring:
		text, _ := impl.ColouringText(r)
		return text
	}
	return fmt.Sprint(result)
}

// asking is a line that changes nothing and puts out what a function returns.
func asking[R any](call func(d impl.Desk, n []int64) (R, int64)) lineCall {
	return func(d impl.Desk, n []int64) (impl.Desk, string, int64) {
		result, code := call(d, n)
		return d, told(result), code
	}
}

// becoming is a line after which the first part is what a function returns.
func becoming(call func(d impl.Desk, n []int64) (impl.Colouring, int64)) lineCall {
	return func(d impl.Desk, n []int64) (impl.Desk, string, int64) {
		x, code := call(d, n)
		return impl.Desk{First: x, Second: d.Second}, told(x), code
	}
}

// ofX, ofColour, ofTwo and ofList let functions of other chapters be asked.
func ofX[R any](call func(x impl.Colouring) (R, int64)) func(impl.Desk, []int64) (R, int64) {
	return func(d impl.Desk, n []int64) (R, int64) { return call(d.First) }
}

func ofColour[R any](call func(x impl.Colouring, c int64) (R, int64)) func(impl.Desk, []int64) (R, int64) {
	return func(d impl.Desk, n []int64) (R, int64) { return call(d.First, n[0]) }
}

func ofTwo[R any](call func(x impl.Colouring, c int64, m int64) (R, int64)) func(impl.Desk, []int64) (R, int64) {
	return func(d impl.Desk, n []int64) (R, int64) { return call(d.First, n[0], n[1]) }
}

func ofList[R any](call func(x impl.Colouring, list []int64) (R, int64)) func(impl.Desk, []int64) (R, int64) {
	return func(d impl.Desk, n []int64) (R, int64) { return call(d.First, n) }
}

// changingLines returns the lines with numbers, or with no word, that change a desk.
func changingLines() map[string]tableLine {
	return map[string]tableLine{
		"change": {3, becoming(func(d impl.Desk, n []int64) (impl.Colouring, int64) {
			return impl.ChangeEdge(d.First, n[0], n[1], n[2])
		})},
		"put":      {anyNumber, becoming(ofList(impl.PutPoint))},
		"take":     {1, becoming(ofColour(impl.TakePoint))},
		"part":     {anyNumber, becoming(ofList(impl.PartOn))},
		"renumber": {anyNumber, becoming(ofList(impl.RenumberPoints))},
		"exchange": {anyNumber, becoming(ofList(impl.ExchangeColours))},
		"join":     {2, becoming(ofTwo(impl.JoinColours))},
		"product": {0, becoming(func(d impl.Desk, n []int64) (impl.Colouring, int64) {
			return impl.ProductColouring(d.First, d.Second)
		})},
		"sequence": {anyNumber, becoming(func(d impl.Desk, n []int64) (impl.Colouring, int64) {
			return impl.SequenceColouring(n)
		})},
		"form": {0, becoming(ofX(impl.LeastForm))},
		"swap": {0, func(d impl.Desk, n []int64) (impl.Desk, string, int64) {
			return impl.Desk{First: d.Second, Second: d.First}, told(d.Second), impl.ErrNone
		}},
		"keep": {0, func(d impl.Desk, n []int64) (impl.Desk, string, int64) {
			return impl.Desk{First: d.First, Second: d.First}, told(d.First), impl.ErrNone
		}},
		"reset": {0, func(d impl.Desk, n []int64) (impl.Desk, string, int64) {
			x, _ := impl.NamedColouring("pentagon")
			return impl.Desk{First: x, Second: x}, "ok", impl.ErrNone
		}},
	}
}

// askingLines returns the lines with numbers, or with no word, that change nothing.
func askingLines() map[string]tableLine {
	return map[string]tableLine{
		"show":      {0, func(d impl.Desk, n []int64) (impl.Desk, string, int64) { return d, told(d.First), impl.ErrNone }},
		"look":      {0, func(d impl.Desk, n []int64) (impl.Desk, string, int64) { return d, told(d.Second), impl.ErrNone }},
		"degrees":   {1, asking(ofColour(impl.DegreesOf))},
		"edges":     {0, asking(ofX(impl.CountEdges))},
		"greatest":  {1, asking(ofColour(impl.GreatestClique))},
		"numbers":   {0, asking(ofX(impl.CliqueNumbers))},
		"cliques":   {2, asking(ofTwo(impl.CliqueList))},
		"full":      {1, asking(ofColour(impl.FullCliques))},
		"triangles": {0, asking(ofX(impl.CountTriangles))},
		"angles":    {0, asking(ofX(impl.AngleNumber))},
		"avoids":    {anyNumber, asking(ofList(impl.AvoidsSizes))},
		"path":      {1, asking(ofColour(impl.LongestPath))},
		"cycles":    {1, asking(ofColour(impl.CycleLengths))},
		"cycle":     {2, asking(ofTwo(impl.FirstCycle))},
		"star": {1, asking(func(d impl.Desk, n []int64) ([]int64, int64) {
			centre, degree, code := impl.GreatestStar(d.First, n[0])
			return []int64{centre, degree}, code
		})},
		"matching":  {1, asking(ofColour(impl.GreatestMatching))},
		"parts":     {1, asking(ofColour(impl.ComponentsOf))},
		"sides":     {1, asking(ofColour(impl.SidesOf))},
		"connected": {0, asking(ofX(impl.ConnectedColours))},
		"same": {0, asking(func(d impl.Desk, n []int64) (bool, int64) {
			return impl.AreIsomorphic(d.First, d.Second)
		})},
		"self":     {0, asking(ofX(impl.IsSelfAlike))},
		"count":    {0, asking(ofX(impl.CountAutomorphisms))},
		"orbits":   {0, asking(ofX(impl.PointOrbits))},
		"classes":  {2, asking(func(d impl.Desk, n []int64) (int64, int64) { return impl.CountClasses(n[0], n[1]) })},
		"bound":    {anyNumber, asking(func(d impl.Desk, n []int64) (int64, int64) { return impl.NeighbourBound(n) })},
		"binomial": {2, asking(func(d impl.Desk, n []int64) (int64, int64) { return impl.BinomialBound(n[0], n[1]) })},
		"lower":    {anyNumber, asking(ofList(impl.LowerBound))},
		"up":       {1, asking(ofColour(impl.LongestUp))},
		"order":    {0, asking(ofX(impl.OrderOf))},
		"lesser":   {0, asking(ofX(impl.LesserPart))},
	}
}

// lineTable has all lines of the chapter but those with a text.
type lineTable map[string]tableLine

func newLineTable() lineTable {
	table := lineTable{}
	for _, lines := range []map[string]tableLine{changingLines(), askingLines()} {
		for name, line := range lines {
			table[name] = line
		}
	}
	return table
}

// numberWord is a number as a line tells it.
var numberWord = regexp.MustCompile(`^(0|[1-9][0-9]{0,8})$`)

// run returns the desk behind a line, the output, and the code of the function; the code is ErrSyntax
// if the line is none of the table, or one of its numbers is none.
func (table lineTable) run(d impl.Desk, line string) (impl.Desk, string, int64) {
	words := strings.Split(line, " ")
	rest := words[1:]
	if (words[0] == "colouring" || words[0] == "name") && len(rest) == 1 {
		read := map[string]func(string) (impl.Colouring, int64){"colouring": impl.ParseColouring, "name": impl.NamedColouring}[words[0]]
		return becoming(func(impl.Desk, []int64) (impl.Colouring, int64) { return read(rest[0]) })(d, nil)
	}
	found, ok := table[words[0]]
	if !ok || found.takes != anyNumber && found.takes != len(rest) {
		return d, "error", impl.ErrSyntax
	}
	var numbers []int64
	for _, word := range rest {
		number, err := strconv.ParseInt(word, 10, 64)
		if !numberWord.MatchString(word) || err != nil {
			return d, "error", impl.ErrSyntax
		}
		numbers = append(numbers, number)
	}
	return found.call(d, numbers)
}

// outcome returns the desk and the output that RunLine must return.
func (table lineTable) outcome(d impl.Desk, line string) (impl.Desk, string) {
	next, output, code := table.run(d, line)
	if code != impl.ErrNone {
		return d, "error"
	}
	return next, output
}

// checkLine checks what RunLine returns against the table, and returns the desk.
func (table lineTable) checkLine(t *testing.T, d impl.Desk, line string) impl.Desk {
	t.Helper()
	wantDesk, wantOutput := table.outcome(d, line)
	next, output := impl.RunLine(d, line)
	if next != wantDesk || output != wantOutput {
		t.Errorf("RunLine(%s %s, %.200q) returns %s %s, %q, not %s %s, %q", told(d.First), told(d.Second), line, told(next.First), told(next.Second), output, told(wantDesk.First), told(wantDesk.Second), wantOutput)
	}
	if !impl.IsDesk(next) {
		t.Errorf("RunLine(.., %.200q) leads to no desk: %v", line, next)
	}
	return next
}

// wantWrong checks that a line has the output error and changes nothing.
func wantWrong(t *testing.T, d impl.Desk, line string) {
	t.Helper()
	if next, output := impl.RunLine(d, line); output != "error" || next != d {
		t.Errorf("RunLine(%s %s, %.200q) returns %s %s, %q", told(d.First), told(d.Second), line, told(next.First), told(next.Second), output)
	}
}

// deskOf returns the desk with two texts.
func deskOf(t *testing.T, first string, second string) impl.Desk {
	t.Helper()
	return impl.Desk{First: parsed(t, first), Second: parsed(t, second)}
}

// someDesks returns desks of many shapes, with different parts.
func someDesks(t *testing.T) []impl.Desk {
	t.Helper()
	first := []impl.Colouring{
		named(t, "pentagon"), named(t, "sixteen"), named(t, "seventeen"), oneColour(17, 1, 0), oneColour(17, 4, 3), oneColour(1, 1, 0), oneColour(1, 4, 0), oneColour(2, 2, 1),
		inGroups(3, 3, 3, 3, 3, 2), inGroups(2, 2, 2, 2, 2, 2, 2, 2, 1), rook(), prism(), mixed(17, 4, 3), mixed(3, 3, 1),
	}
	everyShape(func(x impl.Colouring) {
		if x.Points <= 8 || x.Points >= 11 && x.Points <= 13 {
			first = append(first, x)
		}
	})
	var desks []impl.Desk
	for place, x := range first {
		desks = append(desks, impl.Desk{First: x, Second: first[(place+1)%len(first)]}, impl.Desk{First: x, Second: oneColour(1, 1, 0)})
	}
	return desks
}

const pentagonText = "5,2:0,10,110,0110"

func TestL11Constants(t *testing.T) {
	if impl.MaxConsole != 4000 || impl.MaxLines != 40 {
		t.Errorf("MaxConsole is %d, MaxLines %d", impl.MaxConsole, impl.MaxLines)
	}
}

func TestL11NewDesk(t *testing.T) {
	d := impl.NewDesk()
	if d != deskOf(t, pentagonText, pentagonText) || !impl.IsDesk(d) {
		t.Errorf("NewDesk returns %v", d)
	}
}

func TestL11IsDesk(t *testing.T) {
	for _, d := range someDesks(t) {
		if !impl.IsDesk(d) {
			t.Errorf("%v is no desk", d)
		}
	}
}

// A desk with a part that is no colouring is refused whatever the line is.
func TestL11NoDesk(t *testing.T) {
	right := named(t, "pentagon")
	for what, x := range wrongColourings() {
		for _, d := range []impl.Desk{{First: x, Second: right}, {First: right, Second: x}, {First: x, Second: x}} {
			if impl.IsDesk(d) {
				t.Errorf("%s: IsDesk is true", what)
			}
			for _, line := range []string{"show", "look", "reset", "swap", "keep", "name eight", "colouring 2,2:1", "sequence 1 2", "bound 3 4", "fly", "", " ", "numbers", "take 0"} {
				if next, output := impl.RunLine(d, line); next != (impl.Desk{}) || output != "" {
					t.Errorf("%s: RunLine(.., %q) returns %v, %q", what, line, next, output)
				}
			}
		}
	}
}

// outputCase has the two parts of a desk, a line, the parts behind it, and the output.
type outputCase struct{ first, second, line, nextFirst, nextSecond, output string }

func wantOutputCases(t *testing.T, cases []outputCase) {
	t.Helper()
	for _, w := range cases {
		d := deskOf(t, w.first, w.second)
		next, output := impl.RunLine(d, w.line)
		if next != deskOf(t, w.nextFirst, w.nextSecond) || output != w.output {
			t.Errorf("RunLine(%s %s, %q) returns %s %s, %q", w.first, w.second, w.line, told(next.First), told(next.Second), output)
		}
	}
}

func TestL11LinesThatChange(t *testing.T) {
	const other, p = "2,3:2", pentagonText
	eight := "8,2:0,10,110,0110,10110,110110,0110110"
	var cases []outputCase
	// After these the first part is put out, and the second one stays.
	for _, w := range [][3]string{
		{p, "colouring 3,2:0,11", "3,2:0,11"}, {p, "colouring 1,4:", "1,4:"}, {other, "colouring " + p, p},
		{other, "name pentagon", p}, {p, "name eight", eight},
		{p, "change 0 1 1", "5,2:1,10,110,0110"}, {p, "change 4 3 1", "5,2:0,10,110,0111"}, {p, "change 0 1 0", p},
		{p, "put 0 1 0 1 1", "6,2:0,10,110,0110,01011"}, {"1,4:", "put 3", "2,4:3"},
		{p, "take 4", "4,2:0,10,110"}, {"3,2:0,11", "take 0", "2,2:1"}, {"3,2:0,11", "take 2", "2,2:0"}, {"2,4:3", "take 1", "1,4:"},
		{p, "part 0 2 4", "3,2:1,01"}, {p, "part 3", "1,2:"}, {p, "part 0 1 2 3 4", p},
		{p, "renumber 1 2 0 3 4", "5,2:1,00,011,1010"}, {"1,3:", "renumber 0", "1,3:"},
		{p, "exchange 1 0", "5,2:1,01,001,1001"}, {"3,3:0,12", "exchange 1 2 0", "3,3:1,20"}, {"2,1:0", "exchange 0", "2,1:0"},
		{p, "join 0 1", "5,1:0,00,000,0000"}, {"3,4:1,23", "join 0 2", "3,3:1,02"},
		{p, "sequence 5 9 2", "3,2:0,11"}, {p, "sequence 7", "1,2:"}, {p, "sequence 0 999999999", "2,2:0"},
		{"3,2:1,00", "form", "3,2:0,01"}, {p, "form", "5,2:0,01,101,1100"}, {"1,1:", "form", "1,1:"},
	} {
		cases = append(cases, outputCase{w[0], other, w[1], w[2], other, w[2]})
	}
	wantOutputCases(t, cases)
	wantOutputCases(t, []outputCase{
		{"3,2:0,11", "2,1:0", "product", "6,3:2,00,002,1111,11112", "2,1:0", "6,3:2,00,002,1111,11112"},
		{"2,1:0", "3,2:0,11", "product", "6,3:1,22,000,0001,00022", "3,2:0,11", "6,3:1,22,000,0001,00022"},
		{p, other, "swap", other, p, other},
		{other, p, "swap", p, other, p},
		{p, other, "keep", p, p, p},
		{other, p, "keep", other, other, other},
		{other, "3,2:0,11", "reset", p, p, "ok"},
		{p, p, "reset", p, p, "ok"},
	})
}

func TestL11LinesThatAsk(t *testing.T) {
	const other, p = "2,3:2", pentagonText
	var cases []outputCase
	for _, w := range [][3]string{
		{p, "show", p}, {p, "look", other}, {"1,1:", "show", "1,1:"},
		{p, "degrees 0", "2 2 2 2 2"}, {"3,2:0,11", "degrees 0", "1 1 0"}, {"1,2:", "degrees 1", "0"},
		{p, "edges", "5 5"}, {"3,4:0,33", "edges", "1 0 0 2"}, {"1,1:", "edges", "0"},
		{p, "greatest 1", "0 2"}, {p, "greatest 0", "0 1"}, {"1,2:", "greatest 1", "0"},
		{p, "numbers", "2 2"}, {"4,3:0,00,001", "numbers", "3 2 1"},
		{p, "cliques 0 2", "0 1;0 4;1 2;2 3;3 4"}, {p, "cliques 1 1", "0;1;2;3;4"}, {p, "cliques 0 3", "none"}, {p, "cliques 1 17", "none"}, {"3,1:0,00", "cliques 0 3", "0 1 2"},
		{p, "full 1", "0 2;0 3;1 3;1 4;2 4"}, {"3,2:0,11", "full 0", "0 1;2"},
		{p, "triangles", "0 0"}, {"4,2:0,00,111", "triangles", "1 0"},
		{p, "angles", "20"}, {"3,1:0,00", "angles", "0"},
		{p, "avoids 3 3", "yes"}, {p, "avoids 2 3", "no"}, {p, "avoids 17 17", "yes"}, {p, "avoids 3 1", "no"},
		{p, "path 0", "0 1 2 3 4"}, {p, "path 1", "0 2 4 1 3"}, {"1,2:", "path 1", "0"},
		{p, "cycles 0", "5"}, {"4,2:0,10,110", "cycles 0", "none"}, {"4,1:0,00,000", "cycles 0", "3 4"},
		{p, "cycle 0 5", "0 1 2 3 4"}, {p, "cycle 1 5", "0 2 4 1 3"},
		{p, "star 0", "0 2"}, {"3,2:1,10", "star 1", "0 2"}, {"3,2:0,10", "star 0", "1 2"}, {"2,2:0", "star 1", "0 0"},
		{p, "matching 0", "0 1;2 3"}, {p, "matching 1", "0 2;1 3"}, {"2,2:0", "matching 1", "none"}, {"1,1:", "matching 0", "none"},
		{p, "parts 0", "0 1 2 3 4"}, {"3,2:0,11", "parts 0", "0 1;2"}, {"3,2:0,00", "parts 1", "0;1;2"},
		{"4,2:0,10,110", "sides 0", "0 1 0 1"}, {"1,1:", "sides 0", "0"},
		{p, "connected", "0 1"}, {"3,2:0,11", "connected", "1"}, {"3,3:0,12", "connected", "none"}, {"2,2:0", "connected", "0"},
		{other, "same", "yes"}, {p, "same", "no"}, {"2,3:1", "same", "no"}, {"2,2:0", "same", "no"},
		{p, "self", "yes"}, {"2,2:0", "self", "no"}, {"2,1:0", "self", "no"},
		{p, "count", "10"}, {"7,1:0,00,000,0000,00000,000000", "count", "5040"}, {"1,1:", "count", "1"},
		{p, "orbits", "0 1 2 3 4"}, {"3,2:0,11", "orbits", "0 1;2"}, {"1,1:", "orbits", "0"},
		{p, "classes 4 2", "11"}, {other, "classes 1 4", "1"}, {other, "classes 3 1", "1"},
		{p, "bound 3 4", "9"}, {p, "bound 3 3 3", "17"}, {p, "bound 8", "8"}, {p, "bound 1 8 8 8", "1"},
		{p, "binomial 3 4", "10"}, {p, "binomial 16 16", "155117520"}, {p, "binomial 1 9", "1"},
		{p, "lower 3 3", "6"}, {"1,4:", "lower 2 2 2 2", "2"},
		{p, "up 0", "0 1 2 3 4"}, {p, "up 1", "0 2 4"}, {"2,2:0", "up 1", "0"},
		{"3,2:0,11", "order", "1 2 0"}, {"1,2:", "order", "0"},
		{p, "lesser", "0 1 4"}, {"1,1:", "lesser", "0"},
	} {
		cases = append(cases, outputCase{w[0], other, w[1], w[0], other, w[2]})
	}
	wantOutputCases(t, cases)
}

// refusedCase has the two parts of a desk, and a line of which the function returns a code.
type refusedCase struct {
	first, second, line string
	code                int64
}

// textOfOne returns the text of the colouring of n points with the only colour 0.
func textOfOne(n int64) string { return told(oneColour(n, 1, 0)) }

// refusedCases has for each function of the table each code that it returns beside ErrInvalid, which
// no desk can lead to.
func refusedCases(t *testing.T) []refusedCase {
	t.Helper()
	const p = pentagonText
	zeros := strings.Repeat(" 0", 17)
	cases := []refusedCase{
		{p, p, "colouring 5,2:0", impl.ErrSyntax}, {p, p, "colouring pentagon", impl.ErrSyntax}, {p, p, "colouring 18,1:", impl.ErrSyntax}, {p, p, "colouring ", impl.ErrSyntax}, {p, p, "colouring 02,2:0", impl.ErrSyntax}, {p, p, "colouring 2,2:2", impl.ErrSyntax},
		{p, p, "name square", impl.ErrNotFound}, {p, p, "name Pentagon", impl.ErrNotFound}, {p, p, "name ", impl.ErrNotFound}, {p, p, "name eight\r", impl.ErrNotFound}, {p, p, "name eight\n", impl.ErrNotFound},
		{p, p, "put" + zeros, impl.ErrRange}, {p, p, "put", impl.ErrRange}, {p, p, "put 0 0 0 0", impl.ErrRange}, {p, p, "put 0 0 0 0 2", impl.ErrRange}, {textOfOne(17), p, "put" + zeros, impl.ErrLimit},
		{p, p, "take 5", impl.ErrRange}, {p, p, "take 999999999", impl.ErrRange}, {"1,2:", p, "take 0", impl.ErrState}, {"1,2:", p, "take 1", impl.ErrRange},
		{p, p, "product", impl.ErrLimit}, {"3,1:0,00", "6,1:0,00,000,0000,00000", "product", impl.ErrLimit}, {"1,2:", "1,3:", "product", impl.ErrLimit},
		{p, p, "sequence", impl.ErrRange}, {p, p, "sequence 3 4 3", impl.ErrRange}, {p, p, "sequence " + told(upTo(18)), impl.ErrRange},
		{"7,1:0,00,000,0000,00000,000000", p, "form", impl.ErrLimit}, {textOfOne(17), p, "form", impl.ErrLimit},
		{textOfOne(17), p, "cliques 0 3", impl.ErrLimit}, {p, p, "cliques 0 0", impl.ErrRange}, {p, p, "cliques 0 18", impl.ErrRange}, {p, p, "cliques 2 2", impl.ErrRange},
		{told(inGroups(3, 3, 3, 3, 3)), p, "full 0", impl.ErrLimit},
		{p, p, "cycle 0 2", impl.ErrRange}, {p, p, "cycle 0 18", impl.ErrRange}, {p, p, "cycle 2 5", impl.ErrRange}, {p, p, "cycle 0 4", impl.ErrNotFound}, {p, p, "cycle 1 17", impl.ErrNotFound}, {textOfOne(12), p, "cycle 0 3", impl.ErrLimit},
		{textOfOne(12), p, "path 0", impl.ErrLimit}, {textOfOne(12), p, "cycles 0", impl.ErrLimit},
		{p, p, "sides 0", impl.ErrNotFound}, {p, p, "sides 1", impl.ErrNotFound},
		{textOfOne(8), p, "count", impl.ErrLimit}, {textOfOne(17), p, "count", impl.ErrLimit},
		{p, p, "bound", impl.ErrRange}, {p, p, "bound 0", impl.ErrRange}, {p, p, "bound 9 3", impl.ErrRange}, {p, p, "bound 3 3 3 3 3", impl.ErrRange}, {p, p, "bound 8 8 8 8", impl.ErrLimit},
		{p, p, "lower 2 3", impl.ErrState}, {p, p, "lower 3 3 3", impl.ErrRange}, {p, p, "lower", impl.ErrRange}, {p, p, "lower 0 3", impl.ErrRange}, {p, p, "lower 18 3", impl.ErrRange},
		{p, p, "order", impl.ErrState}, {"3,2:0,10", p, "order", impl.ErrState}, {"3,1:0,00", "3,2:0,11", "order", impl.ErrState}, {"1,3:", p, "order", impl.ErrState},
	}
	for line, wrong := range map[string][]string{
		"change":   {"0 0 1", "0 5 1", "5 0 1", "0 1 2", "999999999 999999998 0"},
		"part":     {"", " 5", " 1 0", " 1 1", " 0 1 2 3 4 5"},
		"renumber": {"", " 0", " 0 1 2 3", " 0 1 2 3 5", " 0 1 2 3 3", " 0 1 2 3 4 5"},
		"exchange": {"", " 0", " 0 0", " 0 2", " 0 1 2"},
		"join":     {" 1 0", " 0 0", " 1 1", " 0 2"},
		"avoids":   {"", " 3", " 3 3 3", " 0 3", " 3 18"},
		"classes":  {" 0 2", " 8 2", " 4 0", " 4 5", " 999999999 999999999"},
		"binomial": {" 0 3", " 3 0", " 17 3", " 3 17"},
		"degrees":  {" 2"}, "greatest": {" 2"}, "full": {" 2"}, "path": {" 2"}, "cycles": {" 2"}, "star": {" 2"}, "matching": {" 2"}, "parts": {" 2"}, "sides": {" 2"}, "up": {" 2", " 999999999"},
	} {
		for _, words := range wrong {
			if words != "" && words[0] != ' ' {
				words = " " + words
			}
			cases = append(cases, refusedCase{p, p, line + words, impl.ErrRange})
		}
	}
	return cases
}

func TestL11RefusedLines(t *testing.T) {
	table := newLineTable()
	for _, w := range refusedCases(t) {
		d := deskOf(t, w.first, w.second)
		if _, _, code := table.run(d, w.line); code != w.code {
			t.Errorf("%s %s, %q: the function returns %d, not %d", w.first, w.second, w.line, code, w.code)
		}
		wantWrong(t, d, w.line)
	}
}

// goodLines has for each line of the table one that does well on a desk with the sequence of 5, 9, 2
// and a pair of points.
func goodLines() map[string]string {
	return map[string]string{
		"colouring": "3,2:0,11", "name": "eight", "change": "0 1 1", "put": "1 0 1", "take": "1", "part": "0 2", "renumber": "1 2 0", "exchange": "1 0", "join": "0 1", "product": "", "sequence": "3 1 4 0",
		"form": "", "swap": "", "keep": "", "show": "", "look": "", "degrees": "1", "edges": "", "greatest": "1", "numbers": "", "cliques": "1 2", "full": "1", "triangles": "", "angles": "", "avoids": "3 3",
		"path": "1", "cycles": "1", "cycle": "0 3", "star": "1", "matching": "1", "parts": "1", "sides": "1", "connected": "", "same": "", "self": "", "count": "", "orbits": "", "classes": "3 2",
		"bound": "3 4", "binomial": "3 4", "lower": "3 3", "up": "1", "order": "", "lesser": "", "reset": "",
	}
}

// eachGoodLine calls a function with a desk and each of the good lines, which it checks.
func eachGoodLine(t *testing.T, use func(d impl.Desk, name string, line string)) {
	t.Helper()
	for name, words := range goodLines() {
		d := deskOf(t, "3,2:0,11", "2,2:0")
		line := strings.TrimSuffix(name+" "+words, " ")
		if name == "cycle" {
			d = deskOf(t, "3,2:0,00", "2,2:0")
		}
		if _, output := impl.RunLine(d, line); output == "error" || output == "" {
			t.Errorf("RunLine(.., %q) has the output %q", line, output)
		}
		use(d, name, line)
	}
}

func TestL11EachLineIsChecked(t *testing.T) {
	table, lines := newLineTable(), goodLines()
	if len(table) != 43 || len(lines) != 45 {
		t.Errorf("the table has %d lines with numbers, and %d lines are good", len(table), len(lines))
	}
	eachGoodLine(t, func(d impl.Desk, name string, line string) {
		table.checkLine(t, d, line)
	})
}

func TestL11WordsMissingOrTooMany(t *testing.T) {
	table := newLineTable()
	eachGoodLine(t, func(d impl.Desk, name string, line string) {
		isMany := table[name].takes == anyNumber
		if at := strings.LastIndex(line, " "); at >= 0 && !isMany {
			wantWrong(t, d, line[:at])
			wantWrong(t, d, name)
		}
		if !isMany {
			for _, more := range []string{" 0", " 1", " x", " 0 0", " " + name} {
				wantWrong(t, d, line+more)
			}
		}
		// An empty word too many is wrong everywhere.
		for _, wrong := range []string{line + " ", line + "  ", " " + line, "  " + line, " " + line + " "} {
			wantWrong(t, d, wrong)
		}
		if strings.Contains(line, " ") {
			wantWrong(t, d, strings.Replace(line, " ", "  ", 1))
			wantWrong(t, d, strings.ReplaceAll(line, " ", "  "))
			wantWrong(t, d, strings.ReplaceAll(line, " ", ""))
		}
		if strings.Count(line, " ") > 1 {
			at := strings.LastIndex(line, " ")
			wantWrong(t, d, line[:at]+" "+line[at:])
		}
	})
}

func TestL11OtherBytes(t *testing.T) {
	eachGoodLine(t, func(d impl.Desk, name string, line string) {
		for _, end := range []string{"\r", "\n", "\t", "\x00", "\v", "\u00a0", ";", ".", "\xff"} {
			wantWrong(t, d, line+end)
			wantWrong(t, d, end+line)
			wantWrong(t, d, name+end+line[len(name):])
		}
		for _, between := range []string{"\t", "\n", "\r", "\u00a0", "\u2003", ",", "_", ";", "\x00"} {
			if strings.Contains(line, " ") {
				wantWrong(t, d, strings.Replace(line, " ", between, 1))
				wantWrong(t, d, strings.ReplaceAll(line, " ", between))
			}
			if strings.Count(line, " ") > 1 {
				at := strings.LastIndex(line, " ")
				wantWrong(t, d, line[:at]+between+line[at+1:])
			}
		}
	})
}

func TestL11OtherCommands(t *testing.T) {
	lines := goodLines()
	eachGoodLine(t, func(d impl.Desk, name string, line string) {
		words := line[len(name):]
		for _, other := range []string{
			strings.ToUpper(name), strings.ToUpper(name[:1]) + name[1:], name[:len(name)-1] + strings.ToUpper(name[len(name)-1:]),
			name[:len(name)-1], name[1:], name + "s", name + name, "", "0", "-" + name, name + ":", "'" + name + "'",
		} {
			if _, ok := lines[other]; !ok {
				wantWrong(t, d, other+words)
			}
		}
	})
	for _, line := range []string{"", " ", "  ", "          ", "\t", "\n", "\r", "\x00", "fly", "error", "ok", "none", "help", "7", "show look", "show, look", "X", "NewDesk", "keep swap"} {
		wantWrong(t, impl.NewDesk(), line)
		wantWrong(t, deskOf(t, "2,3:2", "1,1:"), line)
	}
}

// wrongNumberWords returns words that are no numbers.
func wrongNumberWords() []string {
	return []string{
		"", "+0", "+1", "-0", "-1", "00", "01", "001", "0000000001", "000000000", "-999999999", "1000000000", "1111111111", "2147483648", "4294967296", "4294967297",
		"9223372036854775807", "9223372036854775808", "18446744073709551615", "18446744073709551616", "18446744073709551617", "1" + strings.Repeat("0", 300),
		"a", "x", "one", "1a", "a1", "1.0", "1.", ".1", "1e0", "0x1", "0b1", "0o1", "1_0", "1,0", "1;0", "\t1", "1\t", "1\r", "1\n", "\x001", "１", "١", "½", "\xff", "'1'", "1-", "--1", "+",
	}
}

func TestL11WordsThatAreNoNumbers(t *testing.T) {
	table := newLineTable()
	eachGoodLine(t, func(d impl.Desk, name string, line string) {
		if _, ok := table[name]; !ok {
			return
		}
		words := strings.Split(line, " ")
		for place := 1; place < len(words); place++ {
			for _, wrong := range wrongNumberWords() {
				changed := slices.Clone(words)
				changed[place] = wrong
				wantWrong(t, d, strings.Join(changed, " "))
			}
		}
		if table[name].takes == anyNumber {
			for _, wrong := range wrongNumberWords() {
				wantWrong(t, d, line+" "+wrong)
				wantWrong(t, d, name+" "+wrong)
			}
		}
	})
}

// The numbers of a sequence may be any numbers that a line can tell.
func TestL11NumbersOfLines(t *testing.T) {
	table := newLineTable()
	for _, word := range []string{"0", "1", "9", "10", "99", "100", "123456789", "99999999", "100000000", "999999998", "999999999"} {
		next, output := impl.RunLine(impl.NewDesk(), "sequence "+word)
		if output != "1,2:" || next != deskOf(t, "1,2:", pentagonText) {
			t.Errorf("the sequence of %s leads to %v, %q", word, next, output)
		}
		table.checkLine(t, impl.NewDesk(), "sequence "+word+" 500")
		table.checkLine(t, impl.NewDesk(), "sequence 500 "+word)
	}
	for _, wrong := range wrongNumberWords() {
		wantWrong(t, impl.NewDesk(), "sequence "+wrong)
	}
	// No word, one word, and many words.
	for count := range int64(20) {
		line := strings.TrimSuffix("sequence "+strings.TrimSuffix(told(upTo(count)), "none"), " ")
		next := table.checkLine(t, impl.NewDesk(), line)
		if isLong := count < 1 || count > impl.MaxPoints; isLong != (next == impl.NewDesk()) {
			t.Errorf("%q leads to %v", line, next)
		}
	}
	soon(t, "a very long line", func() {
		for _, name := range []string{"put", "part", "renumber", "exchange", "sequence", "avoids", "bound", "lower", "show", "take", "name", "fly"} {
			wantWrong(t, impl.NewDesk(), name+strings.Repeat(" 1", 300000))
			wantWrong(t, impl.NewDesk(), name+strings.Repeat(" ", 300000))
			wantWrong(t, impl.NewDesk(), name+" "+strings.Repeat("1", 300000))
		}
		wantWrong(t, impl.NewDesk(), "colouring 17,1:"+strings.Repeat("0", 300000))
	})
}

// numberLists returns lists of numbers that lines are tried with.
func numberLists() [][]int64 {
	lists := [][]int64{nil, {0, 1, 2}, {0, 1, 5}, {2, 1, 0}, {1, 1, 1}, {3, 3, 3}, {0, 1, 0, 1}, {4, 4, 4, 4}, {3, 1, 4, 0, 2}, {0, 1, 1, 0, 0}, {17, 17, 17, 17}, {9, 3, 7, 1, 8, 2}}
	for i := range int64(6) {
		lists = append(lists, []int64{i})
		for j := range int64(6) {
			lists = append(lists, []int64{i, j})
		}
	}
	for _, n := range []int64{6, 8, 11, 12, 17, 18} {
		lists = append(lists, upTo(n), mixedList(n, 5), sameNumber(n, 0), []int64{n}, []int64{0, n}, []int64{n, 2})
	}
	return lists
}

// Every line of the table leads from desks to desks, and puts out what its function returns.
func TestL11LinesAsTheTableSays(t *testing.T) {
	table, lists := newLineTable(), numberLists()
	for place, d := range someDesks(t) {
		for name, line := range table {
			for number, list := range lists {
				// Not all lists on all desks: many say the same.
				if line.takes == anyNumber && (number+place)%5 == 0 || line.takes == len(list) && (len(list) != 2 || (number+place)%5 == 0) {
					words := strings.TrimSuffix(" "+strings.TrimSuffix(told(list), "none"), " ")
					table.checkLine(t, d, name+words)
				}
			}
		}
		for _, other := range []impl.Desk{d, {First: d.Second, Second: d.First}} {
			table.checkLine(t, d, "colouring "+told(other.First))
			table.checkLine(t, other, "name seventeen")
		}
	}
}

// mixedLine returns a line of a few words; it is the same one for the same state. Most do well.
func mixedLine(state *uint64, names []string, table lineTable) string {
	next := func(limit int) int {
		*state = *state*6364136223846793005 + 1442695040888963407
		return int(*state >> 33 % uint64(limit))
	}
	pick := func(list ...string) string { return list[next(len(list))] }
	switch next(12) {
	case 0:
		return pick("", " ", "show ", "fly", "take", "put 0 ", "join 1  0", "SHOW", "name", "reset 0", "keep\r", "colouring", "change 0 1 -1")
	case 1, 2:
		return "name " + pick("pentagon", "eight", "thirteen", "sixteen", "nothing")
	case 3, 4:
		return "colouring " + pick("2,2:1", "6,3:0,12,201,0000,12012", "7,1:0,00,000,0000,00000,000000", "4,4:0,12,312", "1,1:", "3,2:0,1")
	case 5:
		return pick("keep", "swap", "swap", "take 0", "product", "form", "reset", "change 0 1 1", "exchange 1 0", "sequence 4 2 7")
	}
	name := names[next(len(names))]
	words := table[name].takes
	if words == anyNumber {
		words = next(8)
	}
	line := name
	for range words {
		line += " " + strconv.Itoa(next(4))
	}
	return line
}

// Promise 11: lines lead from desks to desks, and the console joins their outputs.
func TestL11ConsoleJoinsOutputs(t *testing.T) {
	table := newLineTable()
	var names []string
	for name := range table {
		names = append(names, name)
	}
	slices.Sort(names)
	state, errors := uint64(11), 0
	for text := range 400 {
		var lines []string
		want, d := "", impl.NewDesk()
		for range 1 + text%impl.MaxLines {
			line := mixedLine(&state, names, table)
			lines = append(lines, line)
			if line == "" {
				continue
			}
			d = table.checkLine(t, d, line)
			_, output := impl.RunLine(d, "show")
			if output != told(d.First) {
				t.Errorf("the first part is %s, not %s", output, told(d.First))
			}
		}
		d = impl.NewDesk()
		for _, line := range lines {
			if line != "" {
				next, output := table.outcome(d, line)
				want, d = want+output+"\n", next
			}
		}
		errors += strings.Count(want, "error\n")
		wantConsole(t, strings.Join(lines, "\n")+"\n", want, d)
		if lines[len(lines)-1] != "" {
			wantConsole(t, strings.Join(lines, "\n"), want, d)
		}
	}
	if errors < 1000 || errors > 6000 {
		t.Errorf("%d of the lines are wrong", errors)
	}
}

// wantConsole checks what Console and DeskAfter return for a text that they do not refuse.
func wantConsole(t *testing.T, text string, want string, wantDesk impl.Desk) {
	t.Helper()
	if output := impl.Console(text); output != want {
		t.Errorf("Console(%.300q) returns %.300q, not %.300q", text, output, want)
	}
	d, ok := impl.DeskAfter(text)
	if !ok || d != wantDesk || !impl.IsDesk(d) {
		t.Errorf("DeskAfter(%.300q) returns %s %s, %t", text, told(d.First), told(d.Second), ok)
	}
}

// wantRefused checks what Console and DeskAfter return for a text that is too long.
func wantRefused(t *testing.T, text string) {
	t.Helper()
	if output := impl.Console(text); output != "" {
		t.Errorf("Console of %d bytes, %d newlines, returns %.300q", len(text), strings.Count(text, "\n"), output)
	}
	if d, ok := impl.DeskAfter(text); ok || d != (impl.Desk{}) {
		t.Errorf("DeskAfter of %d bytes, %d newlines, returns %v, %t", len(text), strings.Count(text, "\n"), d, ok)
	}
}

func TestL11ConsoleOfFewLines(t *testing.T) {
	p := deskOf(t, pentagonText, pentagonText)
	pair := deskOf(t, "2,3:2", pentagonText)
	for _, w := range []struct {
		text, want string
		d          impl.Desk
	}{
		{"", "", p}, {"\n", "", p}, {"\n\n\n", "", p},
		{"numbers", "2 2\n", p}, {"numbers\n", "2 2\n", p}, {"\nnumbers", "2 2\n", p}, {"\n\nnumbers\n\n", "2 2\n", p},
		{"numbers\nedges", "2 2\n5 5\n", p}, {"numbers\n\n\nedges\n", "2 2\n5 5\n", p},
		{" ", "error\n", p}, {" \n", "error\n", p}, {" \n \n", "error\nerror\n", p}, {"fly", "error\n", p}, {"numbers\r\nedges\r\n", "error\nerror\n", p}, {"\r\n", "error\n", p}, {"\x00", "error\n", p},
		{"numbers edges", "error\n", p}, {"numbers;edges", "error\n", p}, {"numbers\redges", "error\n", p}, {"numbers\vedges\n", "error\n", p},
		{"colouring 2,3:2", "2,3:2\n", pair}, {"colouring 2,3:2\n", "2,3:2\n", pair}, {"colouring 2,3:2\n\n", "2,3:2\n", pair},
		{"take 9\ncolouring 2,3:2\ntake 9\n", "error\n2,3:2\nerror\n", pair},
		{"colouring 2,3:2\nkeep\nreset", "2,3:2\n2,3:2\nok\n", p},
		{"colouring 2,3:2\nkeep\ntake 1\nreset\nshow\nlook\n", "2,3:2\n2,3:2\n1,3:\nok\n" + pentagonText + "\n" + pentagonText + "\n", p},
		{"colouring 2,3:2\nswap\nshow\nlook\nswap", "2,3:2\n" + pentagonText + "\n" + pentagonText + "\n2,3:2\n2,3:2\n", pair},
		{"colouring 2,3:2\nkeep\nname pentagon\nlook\nswap\ntake 0\nlook", "2,3:2\n2,3:2\n" + pentagonText + "\n2,3:2\n2,3:2\n1,3:\n" + pentagonText + "\n", deskOf(t, "1,3:", pentagonText)},
		// A copy is kept: what becomes of the first part later does not show in it.
		{"colouring 2,3:2\nkeep\nchange 0 1 0\nlook\nsame\nkeep\nsame", "2,3:2\n2,3:2\n2,3:0\n2,3:2\nno\n2,3:0\nyes\n", deskOf(t, "2,3:0", "2,3:0")},
	} {
		wantConsole(t, w.text, w.want, w.d)
	}
}

// A wrong line between others changes neither part of the desk.
func TestL11WrongLinesBetweenOthers(t *testing.T) {
	before := "colouring 3,2:0,11\nkeep\ncolouring 4,3:0,12,201\n"
	wrong := []string{"fly", "take 4", "take", "put 0", "part", "part 1 0", "renumber 0 1 2", "exchange 0 1", "join 1 0", "product", "sequence 1 1", "sequence", "name none", "colouring 3,2:", "swap ", " keep", "keep 0", "reset 1", "Reset", "change 0 1 3", "form 0", "order", "lower 1 1 1", " "}
	for _, line := range wrong {
		wantConsole(t, before+line+"\nshow\nlook\n", "3,2:0,11\n3,2:0,11\n4,3:0,12,201\nerror\n4,3:0,12,201\n3,2:0,11\n", deskOf(t, "4,3:0,12,201", "3,2:0,11"))
	}
	all := strings.Join(wrong, "\n")
	wantConsole(t, before+all, "3,2:0,11\n3,2:0,11\n4,3:0,12,201\n"+strings.Repeat("error\n", len(wrong)), deskOf(t, "4,3:0,12,201", "3,2:0,11"))
}

func TestL11ConsoleOfMaxBytes(t *testing.T) {
	p := impl.NewDesk()
	// One line.
	wantConsole(t, strings.Repeat("x", impl.MaxConsole), "error\n", p)
	wantRefused(t, strings.Repeat("x", impl.MaxConsole+1))
	wantConsole(t, strings.Repeat(" ", impl.MaxConsole-1)+"\n", "error\n", p)
	wantRefused(t, strings.Repeat(" ", impl.MaxConsole)+"\n")
	wantConsole(t, "numbers\n"+strings.Repeat("x", impl.MaxConsole-8), "2 2\nerror\n", p)
	wantRefused(t, "numbers\n"+strings.Repeat("x", impl.MaxConsole-7))
	wantRefused(t, strings.Repeat("x", impl.MaxConsole)+"\nnumbers\n")
	// Bytes are counted, not characters.
	wantConsole(t, strings.Repeat("é", impl.MaxConsole/2), "error\n", p)
	wantRefused(t, strings.Repeat("é", impl.MaxConsole/2+1))
	// MaxLines lines that all do well, and have MaxConsole bytes together.
	line := "sequence 100000000 200000000 300000000 400000000 500000000 600000000 700000000 800000000 1234 12345"
	text := strings.Repeat(line+"\n", impl.MaxLines)
	if len(text) != impl.MaxConsole {
		t.Fatalf("the text has %d bytes", len(text))
	}
	next, output := impl.RunLine(p, line)
	if output != "10,2:0,00,000,0000,00000,000000,0000000,11111111,111111110" {
		t.Errorf("RunLine has the output %q", output)
	}
	wantConsole(t, text, strings.Repeat(output+"\n", impl.MaxLines), next)
	wantConsole(t, text[:len(text)-1], strings.Repeat(output+"\n", impl.MaxLines), next)
	wantRefused(t, "sequence 1"+text[9:])
	wantRefused(t, text+"\n")
	wantRefused(t, text+"x")
	wantRefused(t, "\n"+text)
	wantRefused(t, strings.Repeat(text, 1000))
}

func TestL11ConsoleOfMaxLines(t *testing.T) {
	p := impl.NewDesk()
	taken := deskOf(t, "4,2:0,10,110", pentagonText)
	for _, end := range []string{"", "\n"} {
		lines := func(count int, line string) string {
			return strings.TrimSuffix(strings.Repeat(line+"\n", count), "\n") + end
		}
		wantConsole(t, lines(impl.MaxLines, "numbers"), strings.Repeat("2 2\n", impl.MaxLines), p)
		wantRefused(t, lines(impl.MaxLines+1, "numbers"))
		wantConsole(t, lines(impl.MaxLines, "x"), strings.Repeat("error\n", impl.MaxLines), p)
		wantRefused(t, lines(impl.MaxLines+1, "x"))
		// Empty lines count, wherever they are.
		empty := strings.Repeat("\n", impl.MaxLines-1)
		wantConsole(t, empty+"take 4"+end, "4,2:0,10,110\n", taken)
		wantRefused(t, "\n"+empty+"take 4"+end)
		wantConsole(t, "take 4"+empty+"numbers"+end, "4,2:0,10,110\n2 2\n", taken)
		wantRefused(t, "take 4\n"+empty+"numbers"+end)
		wantRefused(t, empty+"take 4\nnumbers"+end)
	}
	wantConsole(t, strings.Repeat("\n", impl.MaxLines), "", p)
	wantRefused(t, strings.Repeat("\n", impl.MaxLines+1))
	wantRefused(t, strings.Repeat("\n", impl.MaxConsole))
	wantConsole(t, "take 4"+strings.Repeat("\n", impl.MaxLines), "4,2:0,10,110\n", taken)
	wantRefused(t, "take 4"+strings.Repeat("\n", impl.MaxLines+1))
	wantRefused(t, strings.Repeat("\n", impl.MaxLines)+"x")
}

// A text of MaxLines of the lines that take longest, and each line on desks of MaxPoints points, are
// done in reasonable time.
func TestL11LongestLines(t *testing.T) {
	first := []impl.Colouring{
		oneColour(17, 1, 0), oneColour(17, 4, 3), oneColour(11, 1, 0), inGroups(2, 2, 2, 2, 2, 2, 2, 2, 1), inGroups(3, 3, 3, 3, 3, 2), inGroups(9, 8), circle(17), circle(11), named(t, "seventeen"),
		mixed(17, 2, 1), mixed(17, 4, 1), mixed(11, 2, 1), beside(2, 1, rook(), oneColour(1, 2, 0)), beside(4, 2, oneColour(11, 4, 3), oneColour(6, 4, 0)),
	}
	for _, x := range first {
		for name, line := range askingLines() {
			for _, words := range []string{"", " 0", " 0 17", " 0 9", " 7 4", " 17", " 17 17", " 17 17 17 17", " 8 8 8 8", " 8 8 8"} {
				if line.takes != anyNumber && line.takes != strings.Count(words, " ") {
					continue
				}
				soon(t, name, func() {
					text := "colouring " + told(x) + "\nkeep\n" + strings.Repeat(name+words+"\n", impl.MaxLines-2)
					output := impl.Console(text)
					if strings.Count(output, "\n") != impl.MaxLines || strings.Contains(output[:len(told(x))], "error") {
						t.Errorf("Console of %q and %s%s returns %.200q", told(x), name, words, output)
					}
				})
			}
		}
	}
}
