package list

import (
	"math"
	"math/rand"
	"slices"
	"testing"

	"shiftbell/api"
	"shiftbell/path"
)

const long = 1000000000

// of makes a list of how long jobs take.
func of(d ...int64) []int64 { return d }

// on makes a list of the hands of jobs.
func on(hands ...int) []int { return hands }

// same is n jobs that take as long.
func same(n int, d int64) []int64 { return slices.Repeat(of(d), n) }

// edges of pairs: From, To.
func edges(pairs ...int) []api.Edge {
	var l []api.Edge
	for i := 0; i < len(pairs); i += 2 {
		l = append(l, api.Edge{From: pairs[i], To: pairs[i+1]})
	}
	return l
}

// turns of pairs: At, Hand.
func turns(pairs ...int64) []api.Turn {
	var l []api.Turn
	for i := 0; i < len(pairs); i += 2 {
		l = append(l, api.Turn{At: pairs[i], Hand: int(pairs[i+1])})
	}
	return l
}

// The document told once more, without a call of the package.
func toldCheck(m int, d []int64) api.Errno {
	if !(1 <= m && m <= 20) {
		return api.ErrArg
	}
	if len(d) > 60 {
		return api.ErrLarge
	}
	for _, x := range d {
		if !(0 <= x && x <= long) {
			return api.ErrRange
		}
	}
	return api.OK
}

// toldWorked is how long a hand works; -1 is the hand of a job that has none yet.
func toldWorked(d []int64, on []int, hand int) int64 {
	var sum int64
	for i, h := range on {
		if h == hand {
			sum += d[i]
		}
	}
	return sum
}

func toldSpan(m int, d []int64, on []int) int64 {
	var most int64
	for hand := range m {
		most = max(most, toldWorked(d, on, hand))
	}
	return most
}

func toldSpanOrNone(m int, d []int64, on []int) (int64, api.Errno) {
	if e := toldCheck(m, d); e != api.OK {
		return 0, e
	}
	if len(on) != len(d) {
		return 0, api.ErrArg
	}
	for _, hand := range on {
		if !(0 <= hand && hand < m) {
			return 0, api.ErrArg
		}
	}
	return toldSpan(m, d, on), api.OK
}

// toldPut gives a job to the hand that has worked least so far.
func toldPut(m int, d []int64, on []int, i int) {
	least := 0
	for hand := range m {
		if toldWorked(d, on, hand) < toldWorked(d, on, least) {
			least = hand
		}
	}
	on[i] = least
}

func toldRun(m int, d []int64) []int {
	on := slices.Repeat([]int{-1}, len(d))
	for i := range d {
		toldPut(m, d, on, i)
	}
	return on
}

// toldLong looks each time for the longest job that has no hand yet, from the front.
func toldLong(m int, d []int64) []int {
	on := slices.Repeat([]int{-1}, len(d))
	for range d {
		next := -1
		for i := range d {
			if on[i] < 0 && (next < 0 || d[i] > d[next]) {
				next = i
			}
		}
		toldPut(m, d, on, next)
	}
	return on
}

// toldLeast tries for each job all hands that have one already, and one more, if there is one.
func toldLeast(m int, d []int64, worked []int64) int64 {
	if len(d) == 0 {
		return slices.Max(append(of(0), worked...))
	}
	least := int64(math.MaxInt64)
	if len(worked) < m {
		least = toldLeast(m, d[1:], append(slices.Clone(worked), d[0]))
	}
	for hand := range worked {
		with := slices.Clone(worked)
		with[hand] += d[0]
		least = min(least, toldLeast(m, d[1:], with))
	}
	return least
}

// begun is a job that is begun.
type begun struct {
	job, hand int
	at, end   int64
}

// toldGraph lets the time go on by 1: at each time it looks at what is begun, again and again, until nothing more begins.
func toldGraph(m, n int, l []api.Edge, d []int64) ([]api.Turn, int64) {
	var all []begun
	for at := int64(0); len(all) < n; at++ {
		for {
			b, ok := toldNext(m, n, l, d, all, at)
			if !ok {
				break
			}
			all = append(all, b)
		}
	}
	told := make([]api.Turn, n)
	var last int64
	for _, b := range all {
		told[b.job] = api.Turn{At: b.at, Hand: b.hand}
		last = max(last, b.end)
	}
	return told, last
}

// toldNext is what begins next at a time.
func toldNext(m, n int, l []api.Edge, d []int64, all []begun, at int64) (begun, bool) {
	is := func(ok func(begun) bool) bool { return slices.ContainsFunc(all, ok) }
	for hand := range m {
		if is(func(b begun) bool { return b.hand == hand && at < b.end }) {
			continue
		}
		for i := range n {
			if is(func(b begun) bool { return b.job == i }) {
				continue
			}
			waits := slices.ContainsFunc(l, func(e api.Edge) bool {
				return e.To == i && !is(func(b begun) bool { return b.job == e.From && b.end <= at })
			})
			if !waits {
				return begun{i, hand, at, at + d[i]}, true
			}
		}
	}
	return begun{}, false
}

func wantRun(t *testing.T, m int, d []int64, on []int, span int64) {
	t.Helper()
	if a, k, e := Run(m, d); !slices.Equal(a, on) || k != span || e != api.OK {
		t.Error("Run", m, d, a, k, e, on, span)
	}
}

func wantLong(t *testing.T, m int, d []int64, on []int, span int64) {
	t.Helper()
	if a, k, e := Long(m, d); !slices.Equal(a, on) || k != span || e != api.OK {
		t.Error("Long", m, d, a, k, e, on, span)
	}
}

func wantLeast(t *testing.T, m int, d []int64, span int64, want api.Errno) {
	t.Helper()
	if k, e := Least(m, d); k != span || e != want {
		t.Error("Least", m, d, k, e, span, want)
	}
}

func wantSpan(t *testing.T, m int, d []int64, on []int, span int64, want api.Errno) {
	t.Helper()
	if k, e := Span(m, d, on); k != span || e != want {
		t.Error("Span", m, d, on, k, e, span, want)
	}
}

func wantGraph(t *testing.T, m, n int, l []api.Edge, d []int64, want []api.Turn, end int64) {
	t.Helper()
	if a, k, e := Graph(m, n, l, d); !slices.Equal(a, want) || k != end || e != api.OK {
		t.Error("Graph", m, n, l, d, a, k, e, want, end)
	}
}

func wantNoGraph(t *testing.T, m, n int, l []api.Edge, d []int64, want api.Errno) {
	t.Helper()
	if a, k, e := Graph(m, n, l, d); a != nil || k != 0 || e != want {
		t.Error("Graph", m, n, l, d, a, k, e, want)
	}
}

// wantWrong is an error that all calls of P110 have alike, and nothing beside it.
func wantWrong(t *testing.T, m int, d []int64, want api.Errno) {
	t.Helper()
	if a, n, e := Run(m, d); a != nil || n != 0 || e != want {
		t.Error("Run", m, d, a, n, e, want)
	}
	if a, n, e := Long(m, d); a != nil || n != 0 || e != want {
		t.Error("Long", m, d, a, n, e, want)
	}
	wantLeast(t, m, d, 0, want)
	for _, hands := range [][]int{nil, {0}, {-1}, make([]int, len(d)), slices.Repeat(on(-1), len(d)), slices.Repeat(on(m), len(d))} {
		wantSpan(t, m, d, hands, 0, want)
	}
}

// wantTold holds all calls of P110 against what the document says.
func wantTold(t *testing.T, m int, d []int64) {
	t.Helper()
	if e := toldCheck(m, d); e != api.OK {
		wantWrong(t, m, d, e)
		return
	}
	run := toldRun(m, d)
	wantRun(t, m, d, run, toldSpan(m, d, run))
	wantSpan(t, m, d, run, toldSpan(m, d, run), api.OK)
	down := toldLong(m, d)
	wantLong(t, m, d, down, toldSpan(m, d, down))
	wantSpan(t, m, d, down, toldSpan(m, d, down), api.OK)
	if len(d) > 9 {
		wantLeast(t, m, d, 0, api.ErrLarge)
	} else {
		wantLeast(t, m, d, toldLeast(m, d, nil), api.OK)
	}
}

// P5: the numbers that this package leans on.
func TestNumbers(t *testing.T) {
	if api.MaxHands != 20 || api.MaxNodes != 60 || api.MaxSpan != long || api.MaxTried != 9 {
		t.Error(api.MaxHands, api.MaxNodes, api.MaxSpan, api.MaxTried)
	}
	if api.OK != 0 || api.ErrArg != 1 || api.ErrLarge != 2 || api.ErrRange != 4 || api.ErrCycle != 8 {
		t.Error("numbers of errors")
	}
}

// P110: without jobs nobody works, whether there is no list of them or an empty one.
func TestNoJobs(t *testing.T) {
	for _, d := range [][]int64{nil, {}} {
		for _, m := range []int{1, 2, 9, 10, 20} {
			wantTold(t, m, d)
			wantRun(t, m, d, nil, 0)
			wantLong(t, m, d, nil, 0)
			wantLeast(t, m, d, 0, api.OK)
			wantSpan(t, m, d, nil, 0, api.OK)
			wantSpan(t, m, d, on(), 0, api.OK)
			wantSpan(t, m, d, on(0), 0, api.ErrArg)
		}
	}
}

// P110: from 1 to 20 hands, which are looked at ahead of the jobs.
func TestHowManyHands(t *testing.T) {
	for m := 1; m <= 20; m++ {
		wantTold(t, m, of(3, 1, 2))
		wantTold(t, m, same(9, 1))
		wantTold(t, m, same(60, long))
	}
	for _, m := range []int{0, -1, -20, 21, 22, 1000, math.MaxInt, math.MinInt} {
		for _, d := range [][]int64{nil, {}, {1}, {-1}, {long + 1}, same(9, 1), same(10, 1), same(60, 1), same(61, 1), same(61, -1)} {
			wantWrong(t, m, d, api.ErrArg)
		}
	}
}

// P110: 60 jobs are not too many, 61 are, whatever they take.
func TestHowManyJobs(t *testing.T) {
	for n := range 61 {
		wantTold(t, 7, same(n, 1))
		wantTold(t, 1, same(n, long))
	}
	for _, n := range []int{61, 62, 1000} {
		for _, m := range []int{1, 2, 20} {
			for _, x := range of(0, 1, long, -1, long+1) {
				wantWrong(t, m, same(n, x), api.ErrLarge)
			}
		}
	}
}

// P110: a job takes from 0 to 10^9, wherever it stands.
func TestHowLong(t *testing.T) {
	for _, m := range []int{1, 3, 20} {
		for _, n := range []int{1, 2, 9, 10, 60} {
			for _, at := range []int{0, n / 2, n - 1} {
				d := same(n, 1)
				for _, x := range of(0, 1, long-1, long) {
					d[at] = x
					wantTold(t, m, d)
				}
				for _, x := range of(-1, -long, long+1, 2*long, math.MaxInt64, math.MinInt64) {
					d[at] = x
					wantWrong(t, m, d, api.ErrRange)
				}
			}
		}
	}
}

// P110: each job is on the hand that has worked least, not on the next one, and of several on the least one.
func TestRun(t *testing.T) {
	for _, x := range []struct {
		m    int
		d    []int64
		on   []int
		span int64
	}{
		{2, of(2, 2, 4), on(0, 1, 0), 6},
		{1, of(5, 6, 0), on(0, 0, 0), 11},
		{3, of(7), on(0), 7},
		{3, of(1, 1, 1, 1), on(0, 1, 2, 0), 2},
		{2, of(5, 1, 1, 1, 1, 1, 1), on(0, 1, 1, 1, 1, 1, 0), 6},
		// A job of 0 leaves its hand as free as it was.
		{2, of(0, 0, 1, 0, 2), on(0, 0, 0, 1, 1), 2},
		{3, of(3, 2, 1, 1, 1), on(0, 1, 2, 2, 1), 3},
		// Who has the last job is not who works longest.
		{2, of(1, 2, 9, 1), on(0, 1, 0, 1), 10},
		{2, of(long, long, long), on(0, 1, 0), 2 * long},
		{20, of(0, 0, 0), on(0, 0, 0), 0},
	} {
		wantRun(t, x.m, x.d, x.on, x.span)
		wantTold(t, x.m, x.d)
	}
	wantRun(t, 1, same(60, long), make([]int, 60), 60*long)
}

// P110: the longest job is first, those that take as long are in order, and the hands are told in the order of d.
func TestLong(t *testing.T) {
	for _, x := range []struct {
		m    int
		d    []int64
		on   []int
		span int64
	}{
		{2, of(2, 2, 4), on(1, 1, 0), 4},
		{2, of(4, 2, 2), on(0, 1, 1), 4},
		{1, of(5, 6, 0), on(0, 0, 0), 11},
		{3, of(5, 7), on(1, 0), 7},
		{3, of(1, 2, 3, 4), on(2, 2, 1, 0), 4},
		{2, of(1, 1, 1, 2), on(1, 1, 0, 0), 3},
		{2, of(0, 3, 0, 1), on(1, 0, 1, 1), 3},
		// In order it would take less.
		{2, of(3, 2, 2, 3, 2), on(0, 0, 1, 1, 0), 7},
		{2, of(1, long, long-1), on(1, 0, 1), long},
	} {
		wantLong(t, x.m, x.d, x.on, x.span)
		wantTold(t, x.m, x.d)
	}
}

// P110: the least span is less than what Run and Long find, where they do not find it; of 10 jobs none is told.
func TestLeast(t *testing.T) {
	for _, x := range []struct {
		m    int
		d    []int64
		span int64
	}{
		{2, of(2, 2, 4), 4},
		{2, of(3, 3, 2, 2, 2), 6},
		{1, of(3, 3, 2, 2, 2), 12},
		{3, of(3, 3, 2, 2, 2), 5},
		{4, of(3, 3, 2, 2, 2), 4},
		{5, of(3, 3, 2, 2, 2), 3},
		{20, of(3, 3, 2, 2, 2), 3},
		{3, of(5, 5, 4, 4, 3, 3, 3), 9},
		{2, of(0), 0},
		{2, of(7), 7},
		{2, of(long, long, long), 2 * long},
		{1, same(9, long), 9 * long},
		{4, same(9, 1), 3},
		{8, same(9, 1), 2},
		{9, same(9, 1), 1},
		{20, same(9, 1), 1},
		{3, of(9, 8, 7, 6, 5, 4, 3, 2, 1), 15},
		{2, of(256, 128, 64, 32, 16, 8, 4, 2, 1), 256},
		{19, of(0, 0, 0, 0, 0, 0, 0, 0, 5), 5},
	} {
		wantLeast(t, x.m, x.d, x.span, api.OK)
		wantTold(t, x.m, x.d)
	}
	for _, m := range []int{1, 9, 20} {
		for n := 10; n <= 60; n++ {
			wantLeast(t, m, same(n, 0), 0, api.ErrLarge)
		}
		wantLeast(t, m, append(same(9, 1), -1), 0, api.ErrRange)
		wantLeast(t, m, append(same(59, 1), long+1), 0, api.ErrRange)
	}
	wantLeast(t, 0, same(10, 1), 0, api.ErrArg)
}

// P110: as many numbers as jobs, each of them a hand; hands that have nothing to do are all right.
func TestSpan(t *testing.T) {
	for _, x := range []struct {
		on   []int
		span int64
		want api.Errno
	}{
		{on(0, 0, 0), 9, api.OK},
		{on(2, 2, 2), 9, api.OK},
		{on(0, 1, 2), 4, api.OK},
		{on(2, 1, 0), 4, api.OK},
		{on(1, 0, 1), 5, api.OK},
		{on(0, 1, 1), 7, api.OK},
		{on(2, 2, 0), 6, api.OK},
		{nil, 0, api.ErrArg},
		{on(), 0, api.ErrArg},
		{on(0, 0), 0, api.ErrArg},
		{on(0, 0, 0, 0), 0, api.ErrArg},
		{on(0, 0, 0, 3), 0, api.ErrArg},
		{on(3, 0, 0), 0, api.ErrArg},
		{on(0, 3, 0), 0, api.ErrArg},
		{on(0, 0, 3), 0, api.ErrArg},
		{on(-1, 0, 0), 0, api.ErrArg},
		{on(0, 0, -1), 0, api.ErrArg},
		{on(0, math.MaxInt, 0), 0, api.ErrArg},
		{on(0, math.MinInt, 0), 0, api.ErrArg},
	} {
		wantSpan(t, 3, of(2, 4, 3), x.on, x.span, x.want)
	}
	wantSpan(t, 20, of(1), on(19), 1, api.OK)
	wantSpan(t, 20, of(1), on(20), 0, api.ErrArg)
	wantSpan(t, 1, same(60, long), make([]int, 60), 60*long, api.OK)
	wantSpan(t, 3, of(2, -1, 3), on(0, 3), 0, api.ErrRange)
}

// rows calls f with each row of up to n numbers from least to most.
func rows[T int | int64](n int, least, most T, f func([]T)) {
	var more func(l []T)
	more = func(l []T) {
		f(l)
		if len(l) == n {
			return
		}
		for x := least; x <= most; x++ {
			more(append(slices.Clone(l), x))
		}
	}
	more(nil)
}

// P110: all rows of a few short jobs, right and wrong, on a few hands.
func TestAllSmall(t *testing.T) {
	for m := range 5 {
		rows(4, -1, 4, func(d []int64) { wantTold(t, m, d) })
		rows(6, 0, 3, func(d []int64) { wantTold(t, m, d) })
	}
}

// P110: a few jobs on any hands.
func TestAllHands(t *testing.T) {
	for _, d := range [][]int64{nil, {1}, {2, 3}, {0, 2}, {4, 1, 3}, {1, 1, 2, 2}, {5, 0, 4, 1}, {6, -1}} {
		for m := range 4 {
			rows(len(d)+1, -1, 4, func(on []int) {
				span, e := toldSpanOrNone(m, d, on)
				wantSpan(t, m, d, on, span, e)
			})
		}
	}
}

// anyJobs are n jobs, none longer than most.
func anyJobs(r *rand.Rand, n int, most int64) []int64 {
	d := make([]int64, n)
	for i := range d {
		d[i] = r.Int63n(most + 1)
	}
	return d
}

// P110: any jobs on any number of hands, few and many.
func TestAnyJobs(t *testing.T) {
	r := rand.New(rand.NewSource(110))
	for i := range 4000 {
		n := r.Intn(61)
		if i%2 == 0 {
			n = r.Intn(8)
		}
		if i%40 == 0 {
			n = 9
		}
		m := 1 + r.Intn(20)
		if i%3 > 0 {
			m = 1 + r.Intn(5)
		}
		d := anyJobs(r, n, of(1, 3, 10, 1000, long)[r.Intn(5)])
		wantTold(t, m, d)
		hands := make([]int, n)
		for k := range hands {
			hands[k] = r.Intn(m)
		}
		wantSpan(t, m, d, hands, toldSpan(m, d, hands), api.OK)
		if t.Failed() {
			t.FailNow()
		}
	}
}

// P110 by what it is for: on no hands do jobs take less than Least, and Run and Long are never twice as long.
func TestLeastIsLeast(t *testing.T) {
	r := rand.New(rand.NewSource(111))
	for range 2000 {
		m, d := 1+r.Intn(20), anyJobs(r, r.Intn(10), 30)
		least, _ := Least(m, d)
		_, run, _ := Run(m, d)
		_, down, _ := Long(m, d)
		if min(run, down) < least || least > 0 && max(run, down) >= 2*least {
			t.Fatal(m, d, least, run, down)
		}
		hands := make([]int, len(d))
		for range 20 {
			for k := range hands {
				hands[k] = r.Intn(m)
			}
			if span, _ := Span(m, d, hands); span < least {
				t.Fatal(m, d, least, hands, span)
			}
		}
	}
}

// P111: ErrArg of the hands is ahead of all; else it is path.Times' error.
func TestGraphErrors(t *testing.T) {
	var many []api.Edge
	for range 401 {
		many = append(many, api.Edge{From: 0, To: 1})
	}
	for _, x := range []struct {
		n    int
		l    []api.Edge
		d    []int64
		want api.Errno
	}{
		{-1, nil, nil, api.ErrArg},
		{61, nil, same(61, 1), api.ErrArg},
		{math.MaxInt, nil, nil, api.ErrArg},
		{math.MinInt, many, nil, api.ErrArg},
		{2, many, of(1, 1), api.ErrLarge},
		{2, many, nil, api.ErrLarge},
		{2, edges(0, 2), of(1, 1), api.ErrRange},
		{2, edges(-1, 0), of(1), api.ErrRange},
		{2, edges(0, 1, 1, math.MaxInt), of(1, -1), api.ErrRange},
		{0, edges(0, 0), nil, api.ErrRange},
		{2, nil, of(1), api.ErrArg},
		{2, nil, of(1, 1, 1), api.ErrArg},
		{2, nil, nil, api.ErrArg},
		{0, nil, of(1), api.ErrArg},
		{2, nil, of(1, -1), api.ErrArg},
		{2, nil, of(long+1, 1), api.ErrArg},
		{2, edges(0, 1, 1, 0), of(1, math.MinInt64), api.ErrArg},
		{1, edges(0, 0), of(1), api.ErrCycle},
		{1, edges(0, 0), of(0), api.ErrCycle},
		{2, edges(0, 1, 1, 0), of(1, 1), api.ErrCycle},
		{4, edges(0, 1, 1, 2, 2, 3, 3, 1), of(1, 1, 1, 1), api.ErrCycle},
	} {
		if _, e := path.Times(x.n, x.l, x.d); e != x.want {
			t.Error("Times", x.n, x.l, x.d, e, x.want)
		}
		for _, m := range []int{1, 2, 20} {
			wantNoGraph(t, m, x.n, x.l, x.d, x.want)
		}
		for _, m := range []int{0, -1, 21, math.MaxInt, math.MinInt} {
			wantNoGraph(t, m, x.n, x.l, x.d, api.ErrArg)
		}
	}
	for _, m := range []int{0, -1, 21, math.MaxInt, math.MinInt} {
		wantNoGraph(t, m, 0, nil, nil, api.ErrArg)
		wantNoGraph(t, m, 2, edges(0, 1), of(1, 1), api.ErrArg)
	}
}

// P111: as many edges and jobs as there may be, and none.
func TestGraphEdges(t *testing.T) {
	for _, m := range []int{1, 2, 20} {
		wantGraph(t, m, 0, nil, nil, nil, 0)
		wantGraph(t, m, 0, edges(), of(), nil, 0)
		wantGraph(t, m, 1, nil, of(0), turns(0, 0), 0)
		wantGraph(t, m, 1, nil, of(long), turns(0, 0), long)
		wantGraph(t, m, 2, slices.Repeat(edges(1, 0), 400), of(2, 3), turns(3, 0, 0, 0), 5)
	}
	var chain []api.Edge
	var row []api.Turn
	for i := range 60 {
		if i > 0 {
			chain = append(chain, api.Edge{From: i - 1, To: i})
		}
		row = append(row, api.Turn{At: int64(i) * long})
	}
	wantGraph(t, 20, 60, chain, same(60, long), row, 60*long)
	wantGraph(t, 1, 60, nil, same(60, long), row, 60*long)
	wantGraph(t, 20, 60, nil, same(60, 0), make([]api.Turn, 60), 0)
}

// P111: who begins when, and on which hand.
func TestGraph(t *testing.T) {
	for _, x := range []struct {
		m    int
		l    []api.Edge
		d    []int64
		want []api.Turn
		end  int64
	}{
		{2, nil, of(2, 2, 4), turns(0, 0, 0, 1, 2, 0), 6},
		{3, nil, of(2, 2, 4), turns(0, 0, 0, 1, 0, 2), 4},
		{1, nil, of(2, 2, 4), turns(0, 0, 2, 0, 4, 0), 8},
		// The hand that is free first has the next job.
		{2, nil, of(3, 1, 1, 1, 1), turns(0, 0, 0, 1, 1, 1, 2, 1, 3, 0), 4},
		// Of two that are free at once the least one, which has worked more.
		{3, nil, of(2, 3, 1, 2, 1), turns(0, 0, 0, 1, 0, 2, 1, 2, 2, 0), 3},
		{2, nil, of(2, 1, 1, 5), turns(0, 0, 0, 1, 1, 1, 2, 0), 7},
		// A lesser job that is not ready lets a greater one go ahead.
		{1, edges(2, 0), of(1, 1, 1), turns(2, 0, 0, 0, 1, 0), 3},
		{1, edges(1, 0), of(1, 1, 1), turns(1, 0, 0, 0, 2, 0), 3},
		{2, edges(1, 0), of(1, 2, 5), turns(2, 0, 0, 0, 0, 1), 5},
		// A hand waits while none is ready; all those ahead have to have ended.
		{2, edges(0, 2, 1, 2), of(1, 4, 1), turns(0, 0, 0, 1, 4, 0), 5},
		{2, edges(1, 2, 0, 2), of(4, 1, 1), turns(0, 0, 0, 1, 4, 0), 5},
		{20, edges(0, 1, 1, 2), of(1, 2, 3), turns(0, 0, 1, 0, 3, 0), 6},
		// The last one to end is not the last one to begin.
		{2, nil, of(9, 1, 1), turns(0, 0, 0, 1, 1, 1), 9},
		// A job of 0 ends at once: its hand and those behind it can go on at the same time.
		{1, nil, of(0, 0, 3), turns(0, 0, 0, 0, 0, 0), 3},
		{2, nil, of(0, 3, 0, 2), turns(0, 0, 0, 0, 0, 1, 0, 1), 3},
		{1, edges(0, 1, 1, 2), of(0, 0, 0), turns(0, 0, 0, 0, 0, 0), 0},
		// What it makes ready is the least one now.
		{1, edges(1, 0), of(2, 0, 3), turns(0, 0, 0, 0, 2, 0), 5},
		{2, edges(2, 0), of(2, 3, 0, 3), turns(0, 1, 0, 0, 0, 1, 2, 1), 5},
		// It waits for a hand like all others.
		{1, nil, of(5, 0), turns(0, 0, 5, 0), 5},
		{2, edges(0, 2, 1, 3), of(3, 3, 0, 0), turns(0, 0, 0, 1, 3, 0, 3, 0), 3},
		{2, edges(0, 2, 1, 3, 3, 4), of(3, 1, 2, 0, 4), turns(0, 0, 0, 1, 3, 0, 1, 1, 1, 1), 5},
		// One hand more, and it takes longer.
		{3, edges(0, 8, 3, 4, 3, 5, 3, 6, 3, 7), of(3, 2, 2, 2, 4, 4, 4, 4, 9), turns(0, 0, 0, 1, 0, 2, 2, 1, 4, 1, 4, 2, 8, 1, 8, 2, 3, 0), 12},
		{4, edges(0, 8, 3, 4, 3, 5, 3, 6, 3, 7), of(3, 2, 2, 2, 4, 4, 4, 4, 9), turns(0, 0, 0, 1, 0, 2, 0, 3, 2, 1, 2, 2, 2, 3, 3, 0, 6, 1), 15},
	} {
		n := len(x.d)
		a, end := toldGraph(x.m, n, x.l, x.d)
		wantGraph(t, x.m, n, x.l, x.d, a, end)
		wantGraph(t, x.m, n, x.l, x.d, x.want, x.end)
	}
}

// wantToldGraph holds Graph against what the document says, and, if all takes so many times as long, once more.
func wantToldGraph(t *testing.T, m, n int, l []api.Edge, d []int64, times int64) {
	t.Helper()
	a, end := toldGraph(m, n, l, d)
	wantGraph(t, m, n, l, d, a, end)
	longer := slices.Clone(d)
	for i := range n {
		longer[i] *= times
		a[i].At *= times
	}
	wantGraph(t, m, n, l, longer, a, end*times)
}

// P111: all graphs of a few short jobs, on a few hands; those with a knot in them are none.
func TestAllGraphs(t *testing.T) {
	for n := range 4 {
		var pairs []api.Edge
		for from := range n {
			for to := range n {
				pairs = append(pairs, api.Edge{From: from, To: to})
			}
		}
		for set := range 1 << len(pairs) {
			var l []api.Edge
			for i, e := range pairs {
				if set>>i&1 != 0 {
					l = append(l, e)
				}
			}
			rows(n, 0, 2, func(d []int64) {
				if len(d) < n {
					return
				}
				for m := 1; m <= 4; m++ {
					if _, e := path.Times(n, l, d); e != api.OK {
						wantNoGraph(t, m, n, l, d, e)
					} else {
						wantToldGraph(t, m, n, l, d, 7)
					}
				}
			})
		}
	}
}

// anyGraph has about so many edges, and no knot: each job is ahead only of those behind it in a row that is drawn.
func anyGraph(r *rand.Rand, n, count int) []api.Edge {
	row := r.Perm(n)
	var l []api.Edge
	for range count {
		a, b := r.Intn(n), r.Intn(n)
		if a != b {
			l = append(l, api.Edge{From: row[min(a, b)], To: row[max(a, b)]})
		}
	}
	return l
}

// P111: any graphs, with few edges and many, of jobs short and long, on any number of hands.
func TestAnyGraphs(t *testing.T) {
	r := rand.New(rand.NewSource(112))
	for i := range 3000 {
		n := 1 + r.Intn(10)
		if i%10 == 0 {
			n = 1 + r.Intn(60)
		}
		m := 1 + r.Intn(4)
		if i%3 == 0 {
			m = 1 + r.Intn(20)
		}
		most := of(0, 1, 3, 8)[r.Intn(4)]
		wantToldGraph(t, m, n, anyGraph(r, n, r.Intn(3*n)), anyJobs(r, n, most), long/8)
		if t.Failed() {
			t.FailNow()
		}
	}
}

// P111 by what it is for: nobody begins ahead of those ahead of it, and no hand does two things at a time.
func TestGraphHolds(t *testing.T) {
	r := rand.New(rand.NewSource(113))
	for range 2000 {
		n, m := 1+r.Intn(60), 1+r.Intn(20)
		l, d := anyGraph(r, n, r.Intn(400)), anyJobs(r, n, long)
		a, end, e := Graph(m, n, l, d)
		if e != api.OK || len(a) != n {
			t.Fatal(m, n, l, d, a, end, e)
		}
		for _, e := range l {
			if a[e.From].At+d[e.From] > a[e.To].At {
				t.Fatal(m, n, l, d, a, e)
			}
		}
		var last int64
		for i := range n {
			last = max(last, a[i].At+d[i])
			for k := range i {
				if a[i].Hand == a[k].Hand && a[i].At < a[k].At+d[k] && a[k].At < a[i].At+d[i] {
					t.Fatal(m, n, l, d, a, i, k)
				}
			}
		}
		p, _ := path.Times(n, l, d)
		if last != end || end < p.Span {
			t.Fatal(m, n, l, d, a, end, last, p)
		}
	}
}

// P111: on as many hands as jobs all begin as early as path.Times tells.
func TestGraphWithRoom(t *testing.T) {
	r := rand.New(rand.NewSource(114))
	for range 2000 {
		n := 1 + r.Intn(20)
		l, d := anyGraph(r, n, r.Intn(60)), anyJobs(r, n, of(1, 5, long)[r.Intn(3)])
		p, _ := path.Times(n, l, d)
		a, end, e := Graph(20, n, l, d)
		if e != api.OK || end != p.Span {
			t.Fatal(n, l, d, a, end, e, p)
		}
		for i := range n {
			if a[i].At != p.Early[i] {
				t.Fatal(n, l, d, a, p)
			}
		}
	}
}

// P2: what is handed in stays, the room behind it included; what is told is the caller's, and the same again.
func TestOwnMemory(t *testing.T) {
	room, handRoom := of(9, 2, 3, 1, 3, 9), on(9, 1, 0, 1, 0, 9)
	edgeRoom := edges(9, 9, 2, 0, 1, 3, 9, 9)
	d, hands, l := room[1:5], handRoom[1:5], edgeRoom[1:3]
	run, _, _ := Run(2, d)
	down, _, _ := Long(2, d)
	Least(2, d)
	Span(2, d, hands)
	graph, _, _ := Graph(2, 4, l, d)
	if !slices.Equal(room, of(9, 2, 3, 1, 3, 9)) || !slices.Equal(handRoom, on(9, 1, 0, 1, 0, 9)) || !slices.Equal(edgeRoom, edges(9, 9, 2, 0, 1, 3, 9, 9)) {
		t.Error(room, handRoom, edgeRoom)
	}
	keptJobs, keptEdges := slices.Clone(d), slices.Clone(l)
	clear(room)
	clear(handRoom)
	clear(edgeRoom)
	for range 2 {
		if !slices.Equal(run, on(0, 1, 0, 0)) || !slices.Equal(down, on(0, 0, 1, 1)) || !slices.Equal(graph, turns(1, 1, 0, 0, 0, 1, 3, 0)) {
			t.Error(run, down, graph)
		}
		for _, told := range [][]int{run, down} {
			told = told[:cap(told)]
			for i := range told {
				told[i] = 77
			}
		}
		clear(graph[:cap(graph)])
		run, _, _ = Run(2, keptJobs)
		down, _, _ = Long(2, keptJobs)
		graph, _, _ = Graph(2, 4, keptEdges, keptJobs)
	}
	wantTold(t, 2, keptJobs)
}
