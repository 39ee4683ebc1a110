package queue

import (
	"math"
	"math/rand"
	"slices"
	"testing"

	"shiftbell/api"
)

// line is the document's queue told once more: what waits stands in the order in which it came.
type line struct {
	came []api.Item
}

func (l *line) where(id int) int {
	return slices.IndexFunc(l.came, func(x api.Item) bool { return x.Id == id })
}

func (l *line) put(prio, id int) api.Errno {
	switch {
	case l.where(id) >= 0:
		return api.ErrThere
	case len(l.came) == 200:
		return api.ErrFull
	}
	l.came = append(l.came, api.Item{Prio: prio, Id: id})
	return api.OK
}

func (l *line) raise(id, prio int) api.Errno {
	i := l.where(id)
	switch {
	case i < 0:
		return api.ErrNone
	case prio < l.came[i].Prio:
		return api.ErrArg
	}
	l.came[i].Prio = prio
	return api.OK
}

func (l *line) drop(id int) api.Errno {
	i := l.where(id)
	if i < 0 {
		return api.ErrNone
	}
	l.came = slices.Delete(l.came, i, i+1)
	return api.OK
}

func (l *line) take() (api.Item, bool) {
	if len(l.came) == 0 {
		return api.Item{}, false
	}
	best := 0
	for i, x := range l.came {
		if x.Prio > l.came[best].Prio {
			best = i
		}
	}
	x := l.came[best]
	l.came = slices.Delete(l.came, best, best+1)
	return x, true
}

// row takes one by one from a line of its own.
func (l *line) row() []api.Item {
	rest := line{slices.Clone(l.came)}
	var told []api.Item
	for x, ok := rest.take(); ok; x, ok = rest.take() {
		told = append(told, x)
	}
	return told
}

func wantPut(t *testing.T, q *Queue, prio, id int, want api.Errno) {
	t.Helper()
	if e := q.Put(prio, id); e != want {
		t.Error(prio, id, e, want)
	}
}

func wantRaise(t *testing.T, q *Queue, id, prio int, want api.Errno) {
	t.Helper()
	if e := q.Raise(id, prio); e != want {
		t.Error(id, prio, e, want)
	}
}

func wantDrop(t *testing.T, q *Queue, id int, want api.Errno) {
	t.Helper()
	if e := q.Drop(id); e != want {
		t.Error(id, e, want)
	}
}

func wantTake(t *testing.T, q *Queue, want api.Item, there bool) {
	t.Helper()
	if x, ok := q.Take(); x != want || ok != there {
		t.Error(x, ok, want, there)
	}
}

func wantRow(t *testing.T, q *Queue, want ...api.Item) {
	t.Helper()
	if got := q.List(); !slices.Equal(got, want) {
		t.Error(got, want)
	}
}

func wantIds(t *testing.T, q *Queue, want ...int) {
	t.Helper()
	var got []int
	for _, x := range q.List() {
		got = append(got, x.Id)
	}
	if !slices.Equal(got, want) {
		t.Error(got, want)
	}
}

// of has things of these Prios, with ids from 0 on.
func of(t *testing.T, prios ...int) *Queue {
	t.Helper()
	q := New()
	for id, prio := range prios {
		wantPut(t, q, prio, id, api.OK)
	}
	return q
}

// full has ids 0 to 199, each of Prio 4.
func full(t *testing.T) *Queue {
	t.Helper()
	return of(t, slices.Repeat([]int{4}, 200)...)
}

// P5: the numbers that this package leans on.
func TestNumbers(t *testing.T) {
	if api.MaxQueue != 200 {
		t.Error(api.MaxQueue)
	}
	if api.OK != 0 || api.ErrArg != 1 || api.ErrLarge != 2 || api.ErrNone != 5 || api.ErrThere != 6 || api.ErrFull != 7 {
		t.Error("numbers of errors")
	}
}

// P40: in a new queue nothing waits, and in one that is empty again.
func TestEmpty(t *testing.T) {
	q := New()
	for range 3 {
		wantTake(t, q, api.Item{}, false)
		wantTake(t, q, api.Item{}, false)
		wantRow(t, q)
		wantDrop(t, q, 0, api.ErrNone)
		wantRaise(t, q, 0, 0, api.ErrNone)
		wantPut(t, q, 3, 7, api.OK)
		wantTake(t, q, api.Item{Prio: 3, Id: 7}, true)
		wantPut(t, q, 4, 7, api.OK)
		wantDrop(t, q, 7, api.OK)
	}
}

// P40: the greatest Prio first, those of one Prio as they came, whatever their ids.
func TestRow(t *testing.T) {
	q := New()
	for _, x := range []api.Item{{Prio: 1, Id: 50}, {Prio: 2, Id: 9}, {Prio: 1, Id: 3}, {Prio: -4, Id: 1}, {Prio: 2, Id: 10}, {Prio: 2, Id: 1000}, {Prio: 2, Id: -8}, {Prio: 0, Id: 0}} {
		wantPut(t, q, x.Prio, x.Id, api.OK)
	}
	want := []api.Item{{Prio: 2, Id: 9}, {Prio: 2, Id: 10}, {Prio: 2, Id: 1000}, {Prio: 2, Id: -8}, {Prio: 1, Id: 50}, {Prio: 1, Id: 3}, {Prio: 0, Id: 0}, {Prio: -4, Id: 1}}
	wantRow(t, q, want...)
	for i, x := range want {
		wantRow(t, q, want[i:]...)
		wantTake(t, q, x, true)
	}
	wantTake(t, q, api.Item{}, false)
}

// P40: any number is a Prio, and any an id; the ends stand apart without a wrap round.
func TestAnyNumber(t *testing.T) {
	q := New()
	numbers := []int{0, math.MinInt, 1, math.MaxInt, -1, math.MinInt + 1, math.MaxInt - 1}
	for _, n := range numbers {
		wantPut(t, q, n, n, api.OK)
		wantPut(t, q, 5, n, api.ErrThere)
	}
	slices.Sort(numbers)
	slices.Reverse(numbers)
	wantIds(t, q, numbers...)
	wantRaise(t, q, math.MinInt, math.MaxInt, api.OK)
	wantRaise(t, q, math.MinInt, math.MaxInt-1, api.ErrArg)
	wantRaise(t, q, math.MinInt, math.MinInt, api.ErrArg)
	wantTake(t, q, api.Item{Prio: math.MaxInt, Id: math.MinInt}, true)
	wantTake(t, q, api.Item{Prio: math.MaxInt, Id: math.MaxInt}, true)
}

// P40: an id waits once; behind a Take or a Drop it is free, and comes as the last one.
func TestOneOfAnId(t *testing.T) {
	q := of(t, 4, 4, 4)
	wantPut(t, q, 4, 0, api.ErrThere)
	wantPut(t, q, 9, 1, api.ErrThere)
	wantPut(t, q, -9, 2, api.ErrThere)
	wantRow(t, q, api.Item{Prio: 4, Id: 0}, api.Item{Prio: 4, Id: 1}, api.Item{Prio: 4, Id: 2})
	wantTake(t, q, api.Item{Prio: 4, Id: 0}, true)
	wantDrop(t, q, 0, api.ErrNone)
	wantRaise(t, q, 0, 9, api.ErrNone)
	wantPut(t, q, 4, 0, api.OK)
	wantIds(t, q, 1, 2, 0)
	wantDrop(t, q, 1, api.OK)
	wantDrop(t, q, 1, api.ErrNone)
	wantRaise(t, q, 1, 9, api.ErrNone)
	wantPut(t, q, 4, 1, api.OK)
	wantIds(t, q, 2, 0, 1)
}

// P40: 200 may wait, and one more when one of them waits no more; a Raise is no Put.
func TestFull(t *testing.T) {
	q := full(t)
	wantPut(t, q, 4, 200, api.ErrFull)
	wantPut(t, q, 9, -1, api.ErrFull)
	wantRaise(t, q, 7, 5, api.OK)
	wantTake(t, q, api.Item{Prio: 5, Id: 7}, true)
	wantPut(t, q, 1, 200, api.OK)
	wantPut(t, q, 1, 7, api.ErrFull)
	wantDrop(t, q, 201, api.ErrNone)
	wantPut(t, q, 1, 7, api.ErrFull)
	wantDrop(t, q, 199, api.OK)
	wantPut(t, q, 1, 7, api.OK)
	wantPut(t, q, 1, 201, api.ErrFull)
	row := q.List()
	if len(row) != 200 || row[198] != (api.Item{Prio: 1, Id: 200}) || row[199] != (api.Item{Prio: 1, Id: 7}) {
		t.Error(row)
	}
}

// P40 and P3: one that waits ahead of a full queue; nothing is changed by an error.
func TestErrors(t *testing.T) {
	q := full(t)
	wantRaise(t, q, 3, 6, api.OK)
	before := q.List()
	wantPut(t, q, 4, 5, api.ErrThere)
	wantPut(t, q, 9, 199, api.ErrThere)
	wantPut(t, q, 9, 200, api.ErrFull)
	wantRaise(t, q, 200, math.MinInt, api.ErrNone)
	wantRaise(t, q, 200, 9, api.ErrNone)
	wantRaise(t, q, 3, 5, api.ErrArg)
	wantRaise(t, q, 5, 3, api.ErrArg)
	wantRaise(t, q, 5, math.MinInt, api.ErrArg)
	wantDrop(t, q, 200, api.ErrNone)
	wantDrop(t, q, -1, api.ErrNone)
	wantRow(t, q, before...)
	for _, x := range before {
		wantTake(t, q, x, true)
	}
	wantTake(t, q, api.Item{}, false)
}

// P40: who is raised stands among those of its new Prio by when it came, not by when it was raised.
func TestRaise(t *testing.T) {
	q := of(t, 5, 1, 5, 1, 5, 3)
	wantRaise(t, q, 3, 5, api.OK)
	wantIds(t, q, 0, 2, 3, 4, 5, 1)
	wantRaise(t, q, 1, 5, api.OK)
	wantIds(t, q, 0, 1, 2, 3, 4, 5)
	for id := 4; id >= 0; id-- {
		wantRaise(t, q, id, 5, api.OK)
	}
	wantRow(t, q, api.Item{Prio: 5, Id: 0}, api.Item{Prio: 5, Id: 1}, api.Item{Prio: 5, Id: 2}, api.Item{Prio: 5, Id: 3}, api.Item{Prio: 5, Id: 4}, api.Item{Prio: 3, Id: 5})
	wantRaise(t, q, 4, 6, api.OK)
	wantRaise(t, q, 4, 5, api.ErrArg)
	wantPut(t, q, 6, 9, api.OK)
	wantRaise(t, q, 2, 6, api.OK)
	wantIds(t, q, 2, 4, 9, 0, 1, 3, 5)
	wantTake(t, q, api.Item{Prio: 6, Id: 2}, true)
	wantTake(t, q, api.Item{Prio: 6, Id: 4}, true)
	wantTake(t, q, api.Item{Prio: 6, Id: 9}, true)
}

// P40: whoever is dropped or raised, wherever it stands, the others stay in their row.
func TestEachPlace(t *testing.T) {
	prios := []int{3, 8, 1, 8, 5, 3, 9, 0, 5, 2, 7, 7}
	for id, prio := range prios {
		q, o := of(t, prios...), &line{}
		for i, p := range prios {
			o.put(p, i)
		}
		wantDrop(t, q, id, o.drop(id))
		wantRow(t, q, o.row()...)
		wantPut(t, q, prio, id, o.put(prio, id))
		for to := prio; to < 11; to++ {
			wantRaise(t, q, id, to, o.raise(id, to))
			wantRow(t, q, o.row()...)
		}
		for range len(prios) + 1 {
			want, there := o.take()
			wantTake(t, q, want, there)
		}
	}
}

// P2: what is told is the caller's, and one queue knows nothing of another one.
func TestOwnMemory(t *testing.T) {
	q, other := of(t, 1, 2, 3), New()
	wantRow(t, other)
	wantDrop(t, other, 1, api.ErrNone)
	first, second := q.List(), q.List()
	for i := range first[:cap(first)] {
		first[:cap(first)][i] = api.Item{Prio: 99, Id: 99}
	}
	want := []api.Item{{Prio: 3, Id: 2}, {Prio: 2, Id: 1}, {Prio: 1, Id: 0}}
	if !slices.Equal(second, want) {
		t.Error(second)
	}
	wantRow(t, q, want...)
	wantTake(t, q, want[0], true)
	wantRaise(t, q, 0, 7, api.OK)
	if !slices.Equal(second, want) {
		t.Error(second)
	}
}

// play one step of any kind on both.
func play(t *testing.T, r *rand.Rand, q *Queue, o *line, prios, ids int) {
	t.Helper()
	prio, id := r.Intn(prios)-prios/2, r.Intn(ids)-ids/2
	switch k := r.Intn(20); {
	case k < 11:
		wantPut(t, q, prio, id, o.put(prio, id))
	case k < 15:
		wantRaise(t, q, id, prio, o.raise(id, prio))
	case k < 18:
		wantDrop(t, q, id, o.drop(id))
	default:
		want, there := o.take()
		wantTake(t, q, want, there)
	}
}

// P40: any steps, against the line.
func TestAnySteps(t *testing.T) {
	r := rand.New(rand.NewSource(4))
	for _, prios := range []int{1, 2, 9, 100, 1 << 40} {
		for _, ids := range []int{3, 20, 230, 1000000} {
			for range 6 {
				q, o := New(), &line{}
				for i := range 700 {
					play(t, r, q, o, prios, ids)
					if i%7 == 0 || len(o.came) < 20 {
						wantRow(t, q, o.row()...)
					}
				}
				for range len(o.came) + 1 {
					want, there := o.take()
					wantTake(t, q, want, there)
				}
				if t.Failed() {
					t.FailNow()
				}
			}
		}
	}
}

func wantSort(t *testing.T, l, want []api.Item, wantE api.Errno) {
	t.Helper()
	if got, e := Sort(l); !slices.Equal(got, want) || e != wantE {
		t.Error(got, e, want, wantE)
	}
}

// counted has n items of ids 0 on, their Prios from 0 to 6 all over.
func counted(n int) []api.Item {
	var l []api.Item
	for id := range n {
		l = append(l, api.Item{Prio: id * 5 % 7, Id: id})
	}
	return l
}

// P41: none, one, a few; those of one Prio stay as they stood.
func TestSort(t *testing.T) {
	wantSort(t, nil, nil, api.OK)
	wantSort(t, []api.Item{}, nil, api.OK)
	wantSort(t, []api.Item{{}}, []api.Item{{}}, api.OK)
	wantSort(t, []api.Item{{Prio: -3, Id: 4}}, []api.Item{{Prio: -3, Id: 4}}, api.OK)
	wantSort(t,
		[]api.Item{{Prio: 1, Id: 9}, {Prio: 3, Id: 8}, {Prio: 1, Id: 7}, {Prio: math.MaxInt, Id: 1}, {Prio: 3, Id: 9000}, {Prio: math.MinInt, Id: 0}},
		[]api.Item{{Prio: math.MaxInt, Id: 1}, {Prio: 3, Id: 8}, {Prio: 3, Id: 9000}, {Prio: 1, Id: 9}, {Prio: 1, Id: 7}, {Prio: math.MinInt, Id: 0}},
		api.OK)
}

// P41 and P3: two of one Id, wherever they stand, and whatever their Prios; no list is told beside an error.
func TestSortTwice(t *testing.T) {
	for _, pair := range [][2]int{{0, 1}, {0, 199}, {100, 101}, {198, 199}} {
		for _, prio := range []int{0, 3, -9} {
			l := counted(200)
			l[pair[1]] = api.Item{Prio: prio, Id: l[pair[0]].Id}
			if got, e := Sort(l); got != nil || e != api.ErrThere {
				t.Error(pair, got, e)
			}
		}
	}
}

// P41 and P3: 200 are not too many, 201 are, also if two of them have one Id.
func TestSortLarge(t *testing.T) {
	l := counted(200)
	wantSort(t, l, (&line{l}).row(), api.OK)
	for _, n := range []int{201, 202, 1000} {
		for _, twice := range []bool{false, true} {
			l := counted(n)
			if twice {
				l[1].Id = l[0].Id
			}
			if got, e := Sort(l); got != nil || e != api.ErrLarge {
				t.Error(n, twice, got, e)
			}
		}
	}
	if got, e := Sort(make([]api.Item, 201)); got != nil || e != api.ErrLarge {
		t.Error(got, e)
	}
}

// P2: Sort leaves what it is given, the room behind it included, and tells new memory.
func TestSortOwnMemory(t *testing.T) {
	room := counted(20)
	kept := slices.Clone(room)
	got, e := Sort(room[3:9])
	if e != api.OK || !slices.Equal(room, kept) {
		t.Error(e, room, kept)
	}
	want := (&line{kept[3:9]}).row()
	clear(room)
	if !slices.Equal(got, want) {
		t.Error(got, want)
	}
	clear(got[:cap(got)])
	wantSort(t, kept[3:9], want, api.OK)
}

// P41: any items, against the line, and against a queue that they are put into.
func TestSortAny(t *testing.T) {
	r := rand.New(rand.NewSource(41))
	for range 3000 {
		prios := []int{1, 2, 5, 60, 1 << 40}[r.Intn(5)]
		var l []api.Item
		for _, id := range r.Perm(r.Intn(201)) {
			l = append(l, api.Item{Prio: r.Intn(prios) - prios/2, Id: id - 50})
		}
		want := (&line{l}).row()
		wantSort(t, l, want, api.OK)
		q := New()
		for _, x := range l {
			wantPut(t, q, x.Prio, x.Id, api.OK)
		}
		wantRow(t, q, want...)
		if t.Failed() {
			t.FailNow()
		}
	}
}
