package graph

import (
	"math"
	"math/rand"
	"slices"
	"testing"

	"shiftbell/api"
)

// of makes edges of pairs: From, To.
func of(pairs ...int) []api.Edge {
	var l []api.Edge
	for i := 0; i < len(pairs); i += 2 {
		l = append(l, api.Edge{From: pairs[i], To: pairs[i+1]})
	}
	return l
}

// chain is an edge from each of n things, from first on, to the next one.
func chain(first, n int) []api.Edge {
	var l []api.Edge
	for i := first; i+1 < first+n; i++ {
		l = append(l, api.Edge{From: i, To: i + 1})
	}
	return l
}

// ring is a chain whose last thing leads to the first one.
func ring(first, n int) []api.Edge {
	return append(chain(first, n), api.Edge{From: first + n - 1, To: first})
}

// The document told once more, by edges alone: behind is what comes behind from, found step by step.
func behind(l []api.Edge, from int) map[int]int {
	met, next := map[int]int{}, []int{from}
	for len(next) > 0 {
		at := next[0]
		next = next[1:]
		for _, e := range l {
			if e.From == at && met[e.To] == 0 {
				met[e.To] = 1
				next = append(next, e.To)
			}
		}
	}
	return met
}

func toldReach(n int, l []api.Edge, from int) []int {
	var told []int
	met := behind(l, from)
	for i := range n {
		if met[i] == 1 {
			told = append(told, i)
		}
	}
	return told
}

func toldKnot(n int, l []api.Edge) []int {
	var told []int
	for i := range n {
		if behind(l, i)[i] == 1 {
			told = append(told, i)
		}
	}
	return told
}

func toldOrder(n int, l []api.Edge) ([]int, api.Errno) {
	if len(toldKnot(n, l)) > 0 {
		return nil, api.ErrCycle
	}
	var row []int
	for len(row) < n {
		for i := range n {
			waits := slices.ContainsFunc(l, func(e api.Edge) bool { return e.To == i && !slices.Contains(row, e.From) })
			if !slices.Contains(row, i) && !waits {
				row = append(row, i)
				break
			}
		}
	}
	return row, api.OK
}

func toldClose(n int, l []api.Edge) ([]api.Edge, api.Errno) {
	var told []api.Edge
	for from := range n {
		for _, to := range toldReach(n, l, from) {
			told = append(told, api.Edge{From: from, To: to})
		}
	}
	if len(told) > 400 {
		return nil, api.ErrLarge
	}
	return told, api.OK
}

func toldThin(n int, l []api.Edge) ([]api.Edge, api.Errno) {
	if len(toldKnot(n, l)) > 0 {
		return nil, api.ErrCycle
	}
	var told []api.Edge
	for from := range n {
		for to := range n {
			e := api.Edge{From: from, To: to}
			between := func(c int) bool { return c != from && c != to && behind(l, c)[to] == 1 }
			if slices.Contains(l, e) && !slices.ContainsFunc(toldReach(n, l, from), between) {
				told = append(told, e)
			}
		}
	}
	return told, api.OK
}

func wantCheck(t *testing.T, n int, l []api.Edge, want api.Errno) {
	t.Helper()
	if e := Check(n, l); e != want {
		t.Error(n, l, e, want)
	}
}

func wantOrder(t *testing.T, n int, l []api.Edge, want []int, wantE api.Errno) {
	t.Helper()
	if a, e := Order(n, l); !slices.Equal(a, want) || e != wantE || e != api.OK && a != nil {
		t.Error(n, l, a, e, want, wantE)
	}
}

func wantKnot(t *testing.T, n int, l []api.Edge, want []int, wantE api.Errno) {
	t.Helper()
	if a, e := Knot(n, l); !slices.Equal(a, want) || e != wantE || e != api.OK && a != nil {
		t.Error(n, l, a, e, want, wantE)
	}
}

func wantReach(t *testing.T, n int, l []api.Edge, from int, want []int, wantE api.Errno) {
	t.Helper()
	if a, e := Reach(n, l, from); !slices.Equal(a, want) || e != wantE || e != api.OK && a != nil {
		t.Error(n, l, from, a, e, want, wantE)
	}
}

func wantClose(t *testing.T, n int, l, want []api.Edge, wantE api.Errno) {
	t.Helper()
	if a, e := Close(n, l); !slices.Equal(a, want) || e != wantE || e != api.OK && a != nil {
		t.Error(n, l, a, e, want, wantE)
	}
}

func wantThin(t *testing.T, n int, l, want []api.Edge, wantE api.Errno) {
	t.Helper()
	if a, e := Thin(n, l); !slices.Equal(a, want) || e != wantE || e != api.OK && a != nil {
		t.Error(n, l, a, e, want, wantE)
	}
}

// wantTold holds all calls against what the document says of a graph that is one.
func wantTold(t *testing.T, n int, l []api.Edge) {
	t.Helper()
	wantCheck(t, n, l, api.OK)
	row, e := toldOrder(n, l)
	wantOrder(t, n, l, row, e)
	wantKnot(t, n, l, toldKnot(n, l), api.OK)
	for from := range n {
		wantReach(t, n, l, from, toldReach(n, l, from), api.OK)
	}
	edges, e := toldClose(n, l)
	wantClose(t, n, l, edges, e)
	edges, e = toldThin(n, l)
	wantThin(t, n, l, edges, e)
}

// wantWrong is an error that all calls have alike.
func wantWrong(t *testing.T, n int, l []api.Edge, want api.Errno) {
	t.Helper()
	wantCheck(t, n, l, want)
	wantOrder(t, n, l, nil, want)
	wantKnot(t, n, l, nil, want)
	wantClose(t, n, l, nil, want)
	wantThin(t, n, l, nil, want)
	for _, from := range []int{0, 1, n - 1, n, -1, 60, math.MaxInt, math.MinInt} {
		wantReach(t, n, l, from, nil, want)
	}
}

// P5: the numbers that this package leans on.
func TestNumbers(t *testing.T) {
	if api.MaxNodes != 60 || api.MaxEdges != 400 {
		t.Error(api.MaxNodes, api.MaxEdges)
	}
	if api.OK != 0 || api.ErrArg != 1 || api.ErrLarge != 2 || api.ErrRange != 4 || api.ErrCycle != 8 {
		t.Error("numbers of errors")
	}
}

// P50: from no things to 60.
func TestHowManyThings(t *testing.T) {
	for n := range 61 {
		wantTold(t, n, nil)
		wantTold(t, n, []api.Edge{})
	}
	for _, n := range []int{-1, -2, 61, 62, 63, 64, 65, 1000, math.MinInt, math.MaxInt} {
		wantWrong(t, n, nil, api.ErrArg)
		wantWrong(t, n, of(0, 1), api.ErrArg)
	}
}

// P50: 400 edges, also if they are one edge many times; 401 are too many.
func TestHowManyEdges(t *testing.T) {
	for _, n := range []int{2, 60} {
		wantTold(t, n, slices.Repeat(of(0, 1), 400))
		wantTold(t, n, slices.Repeat(of(1, 1), 400))
		wantTold(t, n, slices.Repeat(of(n-1, 0), 399))
		for _, k := range []int{401, 402, 5000} {
			wantWrong(t, n, slices.Repeat(of(0, 1), k), api.ErrLarge)
		}
	}
}

// P50: both ends of each edge are things, wherever the edge stands.
func TestEnds(t *testing.T) {
	for _, n := range []int{1, 2, 5, 59, 60} {
		for _, bad := range []int{-1, n, n + 1, 60, 63, 64, -64, math.MinInt, math.MaxInt} {
			for _, wrong := range [][]api.Edge{of(bad, 0), of(n-1, bad), of(bad, bad)} {
				wantWrong(t, n, wrong, api.ErrRange)
				wantWrong(t, n, append(slices.Repeat(of(0, 0), 399), wrong...), api.ErrRange)
				wantWrong(t, n, append(wrong, of(0, n-1, n-1, n-1)...), api.ErrRange)
			}
		}
		wantTold(t, n, of(0, n-1))
		wantTold(t, n, of(n-1, 0, n-1, n-1))
	}
	wantWrong(t, 0, of(0, 0), api.ErrRange)
}

// P50 and P3: how many things ahead of how many edges, and these ahead of their ends.
func TestFirstError(t *testing.T) {
	many, wrong := make([]api.Edge, 401), slices.Repeat(of(-1, 70), 401)
	for _, n := range []int{-1, 61} {
		wantWrong(t, n, many, api.ErrArg)
		wantWrong(t, n, wrong, api.ErrArg)
		wantWrong(t, n, wrong[:1], api.ErrArg)
	}
	for _, n := range []int{0, 5, 60} {
		wantWrong(t, n, many, api.ErrLarge)
		wantWrong(t, n, wrong, api.ErrLarge)
		wantWrong(t, n, wrong[:400], api.ErrRange)
	}
	// A knot, or too much to be told, is told only of a graph that is one.
	wantWrong(t, 59, append(ring(0, 59), of(0, 59)...), api.ErrRange)
	wantWrong(t, 59, append(of(59, 0), ring(0, 59)...), api.ErrRange)
}

// P51: the least one first of those that nobody left is ahead of, looked for anew at each step.
func TestOrder(t *testing.T) {
	wantOrder(t, 0, nil, nil, api.OK)
	wantOrder(t, 1, nil, []int{0}, api.OK)
	wantOrder(t, 4, nil, []int{0, 1, 2, 3}, api.OK)
	wantOrder(t, 4, of(3, 2, 2, 1, 1, 0), []int{3, 2, 1, 0}, api.OK)
	wantOrder(t, 4, of(3, 0), []int{1, 2, 3, 0}, api.OK)
	// Thing 0 is free behind 2, and goes ahead of 3 and 4, which were free all the time.
	wantOrder(t, 5, of(2, 0, 2, 0, 1, 0), []int{1, 2, 0, 3, 4}, api.OK)
	wantOrder(t, 6, of(5, 0, 0, 3, 4, 1), []int{2, 4, 1, 5, 0, 3}, api.OK)
	wantOrder(t, 60, of(59, 0), append(counted(1, 60), 0), api.OK)
}

// counted is from, and all up to end, without end.
func counted(from, end int) []int {
	var l []int
	for i := from; i < end; i++ {
		l = append(l, i)
	}
	return l
}

// P51: a ring of any length, one of a single thing included, wherever it lies, is a cycle.
func TestCycle(t *testing.T) {
	for n := 1; n <= 60; n++ {
		for first := 0; first+n <= 60; first += 7 {
			l := ring(first, n)
			wantOrder(t, 60, l, nil, api.ErrCycle)
			wantThin(t, 60, l, nil, api.ErrCycle)
			wantKnot(t, 60, l, counted(first, first+n), api.OK)
			wantReach(t, 60, l, first+n/2, counted(first, first+n), api.OK)
			rest := chain(first, n)
			wantOrder(t, 60, rest, counted(0, 60), api.OK)
			wantThin(t, 60, rest, rest, api.OK)
			wantKnot(t, 60, rest, nil, api.OK)
		}
	}
}

// P51: what is ahead of a ring, or behind one, or between two, is in no knot.
func TestKnot(t *testing.T) {
	wantKnot(t, 0, nil, nil, api.OK)
	wantKnot(t, 2, of(1, 1), []int{1}, api.OK)
	l := slices.Concat(of(0, 1), ring(1, 3), of(3, 4, 4, 5), ring(5, 2), of(6, 7, 8, 8, 9, 7))
	wantKnot(t, 10, l, []int{1, 2, 3, 5, 6, 8}, api.OK)
	wantTold(t, 10, l)
}

// P51: what comes behind, near or far; a thing itself only where a way leads back to it.
func TestReach(t *testing.T) {
	l := slices.Concat(chain(0, 5), of(6, 6, 7, 2))
	for from, want := range [][]int{{1, 2, 3, 4}, {2, 3, 4}, {3, 4}, {4}, nil, nil, {6}, {2, 3, 4}} {
		wantReach(t, 8, l, from, want, api.OK)
	}
	down := of(59, 40, 40, 21, 21, 0)
	wantReach(t, 60, down, 59, []int{0, 21, 40}, api.OK)
	wantReach(t, 60, down, 0, nil, api.OK)
}

// P51 and P50: from is a thing; the graph's errors are ahead of that, a cycle is none.
func TestReachFrom(t *testing.T) {
	for _, n := range []int{0, 1, 2, 59, 60} {
		for _, from := range []int{-1, n, n + 1, 60, 64, math.MinInt, math.MaxInt} {
			wantReach(t, n, nil, from, nil, api.ErrRange)
			if n > 0 {
				wantReach(t, n, of(0, 0), from, nil, api.ErrRange)
			}
		}
		if n > 0 {
			wantReach(t, n, nil, n-1, nil, api.OK)
			wantReach(t, n, of(n-1, 0), n-1, toldReach(n, of(n-1, 0), n-1), api.OK)
		}
	}
	wantReach(t, 61, nil, -1, nil, api.ErrArg)
	wantReach(t, 2, make([]api.Edge, 401), 2, nil, api.ErrLarge)
}

// P52: each to all behind it, itself included where it is.
func TestClose(t *testing.T) {
	wantClose(t, 0, nil, nil, api.OK)
	wantClose(t, 9, nil, nil, api.OK)
	wantClose(t, 4, of(2, 1, 1, 3, 2, 1), of(1, 3, 2, 1, 2, 3), api.OK)
	wantClose(t, 3, of(2, 0, 0, 2), of(0, 0, 0, 2, 2, 0, 2, 2), api.OK)
	wantClose(t, 2, of(1, 1), of(1, 1), api.OK)
}

// P52: 400 edges are told, 401 are too many, with knots and without.
func TestCloseLarge(t *testing.T) {
	knots := ring(0, 20)
	plain := slices.Concat(chain(0, 28), chain(28, 7), chain(35, 2))
	for _, l := range [][]api.Edge{knots, plain} {
		want, e := toldClose(60, l)
		if len(want) != 400 || e != api.OK {
			t.Error(len(want), e)
		}
		wantClose(t, 60, l, want, api.OK)
		wantClose(t, 60, append(l, l...), want, api.OK)
		wantClose(t, 60, append(l, of(58, 59)...), nil, api.ErrLarge)
		wantClose(t, 60, append(l, of(59, 59)...), nil, api.ErrLarge)
	}
	wantClose(t, 60, ring(0, 60), nil, api.ErrLarge)
	wantClose(t, 60, chain(0, 60), nil, api.ErrLarge)
	wantClose(t, 60, ring(0, 21), nil, api.ErrLarge)
}

// P52: an edge that a way stands for is no thin one, however long the way; each edge is told once, in order.
func TestThin(t *testing.T) {
	wantThin(t, 0, nil, nil, api.OK)
	wantThin(t, 3, of(1, 2, 0, 1, 0, 2, 0, 1), of(0, 1, 1, 2), api.OK)
	wantThin(t, 3, of(2, 1, 2, 0, 1, 0), of(1, 0, 2, 1), api.OK)
	// Two ways of one length from 0 to 3: all four edges are needed, the short cut is not.
	wantThin(t, 4, of(2, 3, 0, 2, 1, 3, 0, 1, 0, 3), of(0, 1, 0, 2, 1, 3, 2, 3), api.OK)
	for n := 3; n <= 60; n++ {
		wantThin(t, n, append(of(0, n-1), chain(0, n)...), chain(0, n), api.OK)
		wantThin(t, n, of(0, n-1, 0, n-2), of(0, n-2, 0, n-1), api.OK)
	}
	// Of all 378 edges among 28 things only a chain is left.
	whole, e := Close(28, chain(0, 28))
	if len(whole) != 378 || e != api.OK {
		t.Error(len(whole), e)
	}
	wantThin(t, 28, whole, chain(0, 28), api.OK)
}

// P51 and P52: Thin has no bound of its own where Close has one, and a cycle is no error of Close.
func TestOwnErrors(t *testing.T) {
	wantThin(t, 60, chain(0, 60), chain(0, 60), api.OK)
	wantOrder(t, 60, chain(0, 60), counted(0, 60), api.OK)
	wantThin(t, 60, ring(0, 60), nil, api.ErrCycle)
	wantKnot(t, 60, ring(0, 60), counted(0, 60), api.OK)
	wantClose(t, 1, of(0, 0), of(0, 0), api.OK)
}

// P50 to P52: every graph of up to 4 things.
func TestEachSmallGraph(t *testing.T) {
	for n := range 5 {
		for which := range 1 << (n * n) {
			var l []api.Edge
			for k := range n * n {
				if which>>k&1 == 1 {
					l = append(l, api.Edge{From: k % n, To: k / n})
				}
			}
			wantTold(t, n, l)
			if t.Failed() {
				t.FailNow()
			}
		}
	}
}

// anyGraph has so many edges; without a knot each leads on in a row of any order.
func anyGraph(r *rand.Rand, n, edges int, knots bool) []api.Edge {
	row := r.Perm(n)
	var l []api.Edge
	for len(l) < edges {
		a, b := r.Intn(n), r.Intn(n)
		if knots || a < b {
			l = append(l, api.Edge{From: row[a], To: row[b]})
		}
	}
	return l
}

// P50 to P52: any graphs, few edges and many, with knots and without.
func TestAnyGraph(t *testing.T) {
	r := rand.New(rand.NewSource(5))
	for i := range 600 {
		n := 2 + r.Intn(59)
		most := []int{n / 2, n, 2 * n, 400}[r.Intn(4)]
		wantTold(t, n, anyGraph(r, n, r.Intn(min(most, 400)+1), i%2 == 0))
		if t.Failed() {
			t.FailNow()
		}
	}
}

// P2: the same edges in another order, or twice, are the same graph.
func TestOrderOfEdges(t *testing.T) {
	r := rand.New(rand.NewSource(52))
	for range 200 {
		n := 2 + r.Intn(19)
		l := anyGraph(r, n, r.Intn(100), r.Intn(2) == 0)
		row, rowE := Order(n, l)
		knot, knotE := Knot(n, l)
		whole, wholeE := Close(n, l)
		thin, thinE := Thin(n, l)
		mixed := append(slices.Clone(l), l...)
		r.Shuffle(len(mixed), func(i, j int) { mixed[i], mixed[j] = mixed[j], mixed[i] })
		wantOrder(t, n, mixed, row, rowE)
		wantKnot(t, n, mixed, knot, knotE)
		wantClose(t, n, mixed, whole, wholeE)
		wantThin(t, n, mixed, thin, thinE)
	}
}

// spoil overwrites a list and the room behind it.
func spoil[T any](l []T, with T) {
	for i := range l[:cap(l)] {
		l[:cap(l)][i] = with
	}
}

// P2: what is handed in stays, the room behind it included; what is told is the caller's.
func TestOwnMemory(t *testing.T) {
	room := slices.Concat(of(9, 9), of(3, 1, 1, 0, 3, 0, 2, 3), of(7, 7, 8, 8))
	kept := slices.Clone(room)
	l := room[1:5]
	row, _ := Order(4, l)
	knot, _ := Knot(4, append(slices.Clone(l), of(0, 1)...))
	reach, _ := Reach(4, l, 2)
	whole, _ := Close(4, l)
	thin, _ := Thin(4, l)
	if !slices.Equal(room, kept) {
		t.Error(room, kept)
	}
	clear(room)
	if !slices.Equal(row, []int{2, 3, 1, 0}) || !slices.Equal(knot, []int{0, 1}) || !slices.Equal(reach, []int{0, 1, 3}) {
		t.Error(row, knot, reach)
	}
	if !slices.Equal(whole, of(1, 0, 2, 0, 2, 1, 2, 3, 3, 0, 3, 1)) || !slices.Equal(thin, of(1, 0, 2, 3, 3, 1)) {
		t.Error(whole, thin)
	}
	spoil(row, 77)
	spoil(knot, 77)
	spoil(reach, 77)
	spoil(whole, api.Edge{From: 77, To: 77})
	spoil(thin, api.Edge{From: 77, To: 77})
	wantTold(t, 4, kept[1:5])
}
