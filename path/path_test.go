package path

import (
	"math"
	"math/rand"
	"slices"
	"testing"

	"shiftbell/api"
)

// of makes edges of pairs: From, To.
func of(pairs ...int) []api.Edge {
	var l []api.Edge
	for i := 0; i < len(pairs); i += 2 {
		l = append(l, api.Edge{From: pairs[i], To: pairs[i+1]})
	}
	return l
}

// chain is an edge from each of n things to the next one.
func chain(n int) []api.Edge {
	var l []api.Edge
	for i := range n - 1 {
		l = append(l, api.Edge{From: i, To: i + 1})
	}
	return l
}

// long is how long each of some things takes.
func long(d ...int64) []int64 { return d }

// same is n things that all take as long.
func same(n int, d int64) []int64 { return slices.Repeat(long(d), n) }

// The document told once more, by edges alone: knotted says whether a thing comes behind itself.
func knotted(n int, l []api.Edge) bool {
	for i := range n {
		met := make([]bool, n)
		for range n {
			for _, e := range l {
				met[e.To] = met[e.To] || e.From == i || met[e.From]
			}
		}
		if met[i] {
			return true
		}
	}
	return false
}

// longest way from thing i on, its own time included, or back from it: gone step by step, each met once.
func longest(i int, d []int64, known []int64, ends func(int) []int) int64 {
	if known[i] < 0 {
		var most int64
		for _, j := range ends(i) {
			most = max(most, longest(j, d, known, ends))
		}
		known[i] = most + d[i]
	}
	return known[i]
}

// toldTimes says when things begin by the longest ways to them and from them.
func toldTimes(n int, l []api.Edge, d []int64) api.Plan {
	ahead := func(i int) []int {
		var a []int
		for _, e := range l {
			if e.To == i {
				a = append(a, e.From)
			}
		}
		return a
	}
	behind := func(i int) []int {
		var a []int
		for _, e := range l {
			if e.From == i {
				a = append(a, e.To)
			}
		}
		return a
	}
	var p api.Plan
	to, from := same(n, -1), same(n, -1)
	for i := range n {
		p.Span = max(p.Span, longest(i, d, to, ahead))
	}
	for i := range n {
		p.Early = append(p.Early, to[i]-d[i])
		p.Late = append(p.Late, p.Span-longest(i, d, from, behind))
	}
	return p
}

func toldCritical(p api.Plan) []int {
	var told []int
	for i := range p.Early {
		if p.Early[i] == p.Late[i] {
			told = append(told, i)
		}
	}
	return told
}

// toldWay looks at all things at each step, rising.
func toldWay(n int, l []api.Edge, d []int64, p api.Plan) []int {
	var row []int
	for at, last := int64(0), -1; n > 0; {
		i := 0
		for p.Early[i] != at || p.Late[i] != at || last >= 0 && !slices.Contains(l, api.Edge{From: last, To: i}) {
			i++
		}
		row = append(row, i)
		at, last = p.Early[i]+d[i], i
		if at == p.Span {
			break
		}
	}
	return row
}

func wantTimes(t *testing.T, n int, l []api.Edge, d []int64, want api.Plan) {
	t.Helper()
	p, e := Times(n, l, d)
	if e != api.OK || p.Span != want.Span || !slices.Equal(p.Early, want.Early) || !slices.Equal(p.Late, want.Late) {
		t.Error(n, l, d, p, e, want)
	}
}

func wantCritical(t *testing.T, n int, l []api.Edge, d []int64, want ...int) {
	t.Helper()
	if a, e := Critical(n, l, d); e != api.OK || !slices.Equal(a, want) {
		t.Error(n, l, d, a, e, want)
	}
}

func wantWay(t *testing.T, n int, l []api.Edge, d []int64, want ...int) {
	t.Helper()
	if a, e := Way(n, l, d); e != api.OK || !slices.Equal(a, want) {
		t.Error(n, l, d, a, e, want)
	}
}

// wantWrong is an error that all calls have alike, and nothing beside it.
func wantWrong(t *testing.T, n int, l []api.Edge, d []int64, want api.Errno) {
	t.Helper()
	if p, e := Times(n, l, d); e != want || p.Early != nil || p.Late != nil || p.Span != 0 {
		t.Error(n, l, d, p, e, want)
	}
	if a, e := Critical(n, l, d); e != want || a != nil {
		t.Error(n, l, d, a, e, want)
	}
	if a, e := Way(n, l, d); e != want || a != nil {
		t.Error(n, l, d, a, e, want)
	}
}

// wantTold holds all calls against what the document says of things that may take as long as they do.
func wantTold(t *testing.T, n int, l []api.Edge, d []int64) {
	t.Helper()
	if knotted(n, l) {
		wantWrong(t, n, l, d, api.ErrCycle)
		return
	}
	p := toldTimes(n, l, d)
	wantTimes(t, n, l, d, p)
	wantCritical(t, n, l, d, toldCritical(p)...)
	wantWay(t, n, l, d, toldWay(n, l, d, p)...)
}

// P5: the numbers that this package leans on.
func TestNumbers(t *testing.T) {
	if api.MaxSpan != 1000000000 || api.MaxNodes != 60 || api.MaxEdges != 400 {
		t.Error(api.MaxSpan, api.MaxNodes, api.MaxEdges)
	}
	if api.OK != 0 || api.ErrArg != 1 || api.ErrLarge != 2 || api.ErrRange != 4 || api.ErrCycle != 8 {
		t.Error("numbers of errors")
	}
}

// P60 and P61: no things take no time, and none is on the way; d may be no list or an empty one.
func TestNoThings(t *testing.T) {
	for _, d := range [][]int64{nil, {}} {
		for _, l := range [][]api.Edge{nil, {}} {
			wantTimes(t, 0, l, d, api.Plan{})
			wantCritical(t, 0, l, d)
			wantWay(t, 0, l, d)
		}
	}
}

// P60: a thing begins when the last one ahead of it ends, and must when the first one behind it must.
func TestTimes(t *testing.T) {
	wantTimes(t, 1, nil, long(7), api.Plan{Early: long(0), Late: long(0), Span: 7})
	wantTimes(t, 3, nil, long(2, 9, 5), api.Plan{Early: long(0, 0, 0), Late: long(7, 0, 4), Span: 9})
	// The longer of two ways counts, the numbers of things and the order of edges do not.
	fork := of(1, 0, 3, 1, 2, 0, 3, 2)
	wantTimes(t, 4, fork, long(1, 6, 2, 3), api.Plan{Early: long(9, 3, 3, 0), Late: long(9, 3, 7, 0), Span: 10})
	wantTimes(t, 4, fork, long(1, 2, 6, 3), api.Plan{Early: long(9, 3, 3, 0), Late: long(9, 7, 3, 0), Span: 10})
	// Who leads on to little may wait for Span itself, and one with several behind it for the least LATE.
	wantTimes(t, 4, of(0, 1, 0, 2), long(1, 1, 4, 20), api.Plan{Early: long(0, 1, 1, 0), Late: long(15, 19, 16, 0), Span: 20})
	// A short cut, or an edge told twice, is nothing more.
	wantTimes(t, 3, of(0, 2, 0, 1, 1, 2, 0, 2), long(2, 3, 4), api.Plan{Early: long(0, 2, 5), Late: long(0, 2, 5), Span: 9})
}

// P60: Span is the greatest end, not the end of the last one in a row, nor the greatest EARLY.
func TestSpan(t *testing.T) {
	wantTimes(t, 3, of(0, 2), long(3, 10, 1), api.Plan{Early: long(0, 0, 3), Late: long(6, 0, 9), Span: 10})
	wantTimes(t, 3, of(2, 0), long(1, 10, 3), api.Plan{Early: long(3, 0, 0), Late: long(9, 0, 6), Span: 10})
}

// P60: a thing may take no time; it begins behind those ahead of it all the same.
func TestNoTime(t *testing.T) {
	wantTimes(t, 3, nil, long(0, 0, 0), api.Plan{Early: long(0, 0, 0), Late: long(0, 0, 0)})
	wantTimes(t, 3, of(2, 1, 1, 0), long(1, 0, 3), api.Plan{Early: long(3, 3, 0), Late: long(3, 3, 0), Span: 4})
	wantTimes(t, 3, of(0, 1), long(0, 0, 5), api.Plan{Early: long(0, 0, 0), Late: long(5, 5, 0), Span: 5})
}

// P60: from 0 to MaxSpan each, and as many of the longest as there may be.
func TestLongest(t *testing.T) {
	wantTimes(t, 1, nil, long(1000000000), api.Plan{Early: long(0), Late: long(0), Span: 1000000000})
	p, e := Times(60, chain(60), same(60, 1000000000))
	if e != api.OK || p.Span != 60000000000 || p.Early[59] != 59000000000 || p.Late[59] != 59000000000 {
		t.Error(p, e)
	}
	wantTold(t, 60, chain(60), same(60, 1000000000))
	wantTold(t, 60, chain(60), same(60, 999999999))
	wantTold(t, 60, nil, same(60, 1000000000))
}

// P60: one that takes less than nothing, or more than MaxSpan, is wrong wherever it stands.
func TestWrongTimes(t *testing.T) {
	for _, bad := range []int64{-1, -2, 1000000001, 1 << 40, math.MinInt64, math.MaxInt64, -1000000000} {
		for _, n := range []int{1, 2, 7, 60} {
			for i := range n {
				d := same(n, 3)
				d[i] = bad
				wantWrong(t, n, nil, d, api.ErrArg)
				wantWrong(t, n, chain(n), d, api.ErrArg)
			}
		}
	}
}

// P60: d has a number of each thing, no fewer and no more, whatever lies in the room behind it.
func TestHowManyTimes(t *testing.T) {
	for _, n := range []int{0, 1, 2, 59, 60} {
		for _, k := range []int{0, 1, 2, 3, 58, 59, 60, 61, 500} {
			if k == n {
				wantTold(t, n, chain(n), same(k, 1))
				continue
			}
			wantWrong(t, n, nil, same(k, 1), api.ErrArg)
			wantWrong(t, n, chain(n), same(500, 1)[:k], api.ErrArg)
		}
	}
	wantWrong(t, 1, nil, nil, api.ErrArg)
	// What lies behind the numbers may be anything.
	wantTold(t, 2, of(1, 0), long(1, 2, -1, math.MaxInt64)[:2])
}

// P60: what graph.Check tells of the things and edges.
func TestWrongGraph(t *testing.T) {
	for _, n := range []int{-1, 61, 64, math.MinInt, math.MaxInt} {
		wantWrong(t, n, nil, nil, api.ErrArg)
		wantWrong(t, n, nil, same(61, 1), api.ErrArg)
	}
	for _, n := range []int{2, 60} {
		wantTold(t, n, slices.Repeat(of(n-1, 0), 400), same(n, 2))
		wantWrong(t, n, slices.Repeat(of(n-1, 0), 401), same(n, 2), api.ErrLarge)
		for _, bad := range []int{-1, n, 64, math.MinInt, math.MaxInt} {
			wantWrong(t, n, of(0, 1, bad, 0), same(n, 2), api.ErrRange)
			wantWrong(t, n, of(0, bad, 0, 1), same(n, 2), api.ErrRange)
		}
	}
	wantWrong(t, 0, of(0, 0), nil, api.ErrRange)
}

// P60: a cycle, of one thing or of all, beside others or alone, however long its things take.
func TestCycle(t *testing.T) {
	for _, d := range []int64{0, 1, 1000000000} {
		wantWrong(t, 1, of(0, 0), same(1, d), api.ErrCycle)
		wantWrong(t, 2, of(0, 1, 1, 0), same(2, d), api.ErrCycle)
		wantWrong(t, 5, of(0, 1, 4, 4), same(5, d), api.ErrCycle)
		wantWrong(t, 5, of(0, 1, 1, 2, 2, 3, 3, 1, 3, 4), same(5, d), api.ErrCycle)
		wantWrong(t, 60, append(chain(60), of(59, 0)...), same(60, d), api.ErrCycle)
	}
}

// P60 and P3: the graph's error is ahead of d's, and d's is ahead of a cycle.
func TestFirstError(t *testing.T) {
	for _, d := range [][]int64{nil, long(-1), long(1, 1000000001), same(61, -1)} {
		wantWrong(t, 2, slices.Repeat(of(0, 0), 401), d, api.ErrLarge)
		wantWrong(t, 2, of(0, 0, 2, 0), d, api.ErrRange)
		wantWrong(t, 2, of(0, 0), d, api.ErrArg)
		wantWrong(t, 2, of(0, 1, 1, 0), d, api.ErrArg)
	}
	wantWrong(t, 2, of(0, 0, 2, 0), same(2, 1), api.ErrRange)
	wantWrong(t, 61, slices.Repeat(of(-1, 0), 401), same(61, 1), api.ErrArg)
}

// P61: who can wait is not critical; those that cannot are told rising, also where no way goes by all of them.
func TestCritical(t *testing.T) {
	wantCritical(t, 1, nil, long(0), 0)
	wantCritical(t, 3, nil, long(4, 5, 5), 1, 2)
	wantCritical(t, 3, nil, long(5, 4, 5), 0, 2)
	wantCritical(t, 4, of(3, 2, 2, 1, 1, 0), long(1, 1, 1, 1), 0, 1, 2, 3)
	wantCritical(t, 4, of(1, 0, 3, 1, 2, 0, 3, 2), long(1, 6, 2, 3), 0, 1, 3)
	wantCritical(t, 4, of(1, 0, 3, 1, 2, 0, 3, 2), long(1, 6, 6, 3), 0, 1, 2, 3)
	// One that takes no time can wait like any other one, or cannot.
	wantCritical(t, 3, nil, long(0, 1, 0), 1)
	wantCritical(t, 3, of(0, 1, 1, 2), long(0, 1, 0), 0, 1, 2)
	wantCritical(t, 4, nil, long(0, 0, 0, 0), 0, 1, 2, 3)
}

// P61: of several that could be next the least one is, whatever the edges' order.
func TestWay(t *testing.T) {
	wantWay(t, 1, nil, long(3), 0)
	wantWay(t, 3, nil, long(4, 5, 5), 1)
	wantWay(t, 4, of(3, 2, 2, 1, 1, 0), long(1, 1, 1, 1), 3, 2, 1, 0)
	fork := of(0, 3, 0, 1, 0, 2, 3, 4, 2, 4, 1, 4)
	wantWay(t, 5, fork, long(1, 5, 5, 5, 1), 0, 1, 4)
	wantWay(t, 5, fork, long(1, 4, 5, 5, 1), 0, 2, 4)
	wantWay(t, 5, fork, long(1, 4, 4, 5, 1), 0, 3, 4)
	// Thing 0 begins at 2 and is critical, but 1, not 0, is behind 3: only those with an edge from the last one are next.
	wantWay(t, 5, of(3, 1, 4, 0), long(5, 5, 1, 2, 2), 3, 1)
	// From 1 an edge leads to 0, which can wait until Span is near; 2 cannot.
	wantWay(t, 3, of(1, 0, 1, 2), long(1, 1, 4), 1, 2)
	// An edge leads to one that is critical and begins later: there is another one between.
	wantWay(t, 3, of(1, 0, 1, 2, 2, 0), long(1, 1, 1), 1, 2, 0)
}

// P61: the way ends as soon as Span is there, also if more things of no time are behind, and begins with the least one at 0.
func TestWayOfNoTime(t *testing.T) {
	wantWay(t, 2, nil, long(0, 0), 0)
	wantWay(t, 2, of(0, 1), long(0, 0), 0)
	wantWay(t, 2, of(1, 0), long(0, 0), 0)
	wantWay(t, 3, of(0, 1, 1, 2), long(0, 4, 0), 0, 1)
	wantWay(t, 3, of(2, 1, 1, 0), long(1, 0, 3), 2, 1, 0)
	// Thing 0 takes no time behind 1, and both begin at 0: the least one is first, though 1 is ahead of it.
	wantWay(t, 3, of(1, 0, 0, 2), long(0, 0, 2), 0, 2)
	// Of 0 to 3, which all begin at 0 and cannot wait, the least one is first.
	wantWay(t, 5, of(0, 4, 2, 4, 1, 2, 1, 3), long(1, 0, 1, 2, 1), 0, 4)
	// Thing 2 is between 3 and 1 and takes no time: the least one behind 3 passes it by.
	wantWay(t, 4, of(3, 2, 2, 1, 3, 1, 1, 0), long(2, 0, 0, 1), 3, 1, 0)
}

// P60 and P61: every graph of up to 4 things that take 0 to 2 each (of 4 with a cycle, which is an error anyway, some of the times).
func TestEachSmallGraph(t *testing.T) {
	for n := range 5 {
		for which := range 1 << (n * n) {
			var l []api.Edge
			for k := range n * n {
				if which>>k&1 == 1 {
					l = append(l, api.Edge{From: k % n, To: k / n})
				}
			}
			wantEachTime(t, n, l)
			if t.Failed() {
				t.FailNow()
			}
		}
	}
}

func wantEachTime(t *testing.T, n int, l []api.Edge) {
	t.Helper()
	step, all := 1, int(math.Pow(3, float64(n)))
	if n == 4 && knotted(n, l) {
		step = 40
	}
	for times := 0; times < all; times += step {
		d, rest := same(n, 0), times
		for i := range d {
			d[i] = int64(rest % 3)
			rest /= 3
		}
		wantTold(t, n, l, d)
	}
}

// anyGraph has so many edges, each of which leads on in a row of any order.
func anyGraph(r *rand.Rand, n, edges int) []api.Edge {
	row := r.Perm(n)
	var l []api.Edge
	for len(l) < edges {
		if a, b := r.Intn(n), r.Intn(n); a < b {
			l = append(l, api.Edge{From: row[a], To: row[b]})
		}
	}
	return l
}

// anyTimes are below a bound: a low one makes many ways as long as each other.
func anyTimes(r *rand.Rand, n int, bound int64) []int64 {
	d := make([]int64, n)
	for i := range d {
		d[i] = r.Int63n(bound)
	}
	return d
}

// P60 and P61: any graphs, few edges and many, short things and long ones.
func TestAnyGraph(t *testing.T) {
	r := rand.New(rand.NewSource(6))
	for range 3000 {
		n := 2 + r.Intn(59)
		most := []int{n / 2, n, 2 * n, 400}[r.Intn(4)]
		bound := []int64{1, 2, 3, 10, 1000000001}[r.Intn(5)]
		wantTold(t, n, anyGraph(r, n, r.Intn(min(most, 400)+1)), anyTimes(r, n, bound))
		if t.Failed() {
			t.FailNow()
		}
	}
}

// P60 and P61 by what they are for: all keeps its order within Span, begun early or late, and the way fills Span.
func TestWhatItIsFor(t *testing.T) {
	r := rand.New(rand.NewSource(61))
	for range 1000 {
		n := 2 + r.Intn(30)
		l, d := anyGraph(r, n, r.Intn(3*n)), anyTimes(r, n, 5)
		p, e := Times(n, l, d)
		way, f := Way(n, l, d)
		if e != api.OK || f != api.OK {
			t.Fatal(n, l, d, e, f)
		}
		for _, at := range [][]int64{p.Early, p.Late} {
			for i := range n {
				if at[i] < 0 || at[i]+d[i] > p.Span || p.Early[i] > p.Late[i] {
					t.Fatal(n, l, d, p)
				}
			}
			if slices.ContainsFunc(l, func(x api.Edge) bool { return at[x.From]+d[x.From] > at[x.To] }) {
				t.Fatal(n, l, d, p)
			}
		}
		var sum int64
		for k, i := range way {
			if k > 0 && !slices.Contains(l, api.Edge{From: way[k-1], To: i}) {
				t.Fatal(n, l, d, way)
			}
			sum += d[i]
		}
		if sum != p.Span {
			t.Fatal(n, l, d, way, sum, p.Span)
		}
	}
}

// P2: the same edges in another order, or twice, are the same graph.
func TestOrderOfEdges(t *testing.T) {
	r := rand.New(rand.NewSource(60))
	for range 200 {
		n := 2 + r.Intn(19)
		l, d := anyGraph(r, n, r.Intn(100)), anyTimes(r, n, 3)
		p, _ := Times(n, l, d)
		critical, _ := Critical(n, l, d)
		way, _ := Way(n, l, d)
		mixed := append(slices.Clone(l), l...)
		r.Shuffle(len(mixed), func(i, j int) { mixed[i], mixed[j] = mixed[j], mixed[i] })
		wantTimes(t, n, mixed, d, p)
		wantCritical(t, n, mixed, d, critical...)
		wantWay(t, n, mixed, d, way...)
	}
}

// spoil overwrites a list and the room behind it.
func spoil[T any](l []T, with T) {
	for i := range l[:cap(l)] {
		l[:cap(l)][i] = with
	}
}

// P2: what is handed in stays, the room behind it included; what is told is the caller's, and each list its own.
func TestOwnMemory(t *testing.T) {
	room, times := slices.Concat(of(9, 9), of(3, 1, 1, 0, 3, 0, 2, 3), of(7, 7, 8, 8)), long(-5, 1, 2, 3, 4, -6, -7)
	keptRoom, keptTimes := slices.Clone(room), slices.Clone(times)
	l, d := room[1:5], times[1:5]
	p, _ := Times(4, l, d)
	critical, _ := Critical(4, l, d)
	way, _ := Way(4, l, d)
	if !slices.Equal(room, keptRoom) || !slices.Equal(times, keptTimes) {
		t.Error(room, times)
	}
	clear(room)
	clear(times)
	if !slices.Equal(critical, []int{0, 1, 2, 3}) || !slices.Equal(way, []int{2, 3, 1, 0}) {
		t.Error(critical, way)
	}
	spoil(p.Early, 77)
	if !slices.Equal(p.Late, long(9, 7, 0, 3)) || p.Span != 10 {
		t.Error(p)
	}
	spoil(p.Late, 78)
	if slices.Contains(p.Early, 78) {
		t.Error(p)
	}
	spoil(critical, 77)
	spoil(way, 77)
	wantTold(t, 4, keptRoom[1:5], keptTimes[1:5])
}
