package wheel

import (
	"math"
	"math/rand"
	"slices"
	"testing"

	"shiftbell/api"
)

// row is the document's wheel told once more: what waits stands in the order in which it was added.
type row struct {
	now   int64
	waits []api.Fire
}

func (r *row) where(id int) int {
	return slices.IndexFunc(r.waits, func(f api.Fire) bool { return f.Id == id })
}

func (r *row) add(at int64, id int) api.Errno {
	switch {
	case at <= r.now:
		return api.ErrLate
	case at > r.now+1<<24:
		return api.ErrRange
	case r.where(id) >= 0:
		return api.ErrThere
	case len(r.waits) == 200:
		return api.ErrFull
	}
	r.waits = append(r.waits, api.Fire{At: at, Id: id})
	return api.OK
}

func (r *row) cancel(id int) api.Errno {
	i := r.where(id)
	if i < 0 {
		return api.ErrNone
	}
	r.waits = slices.Delete(r.waits, i, i+1)
	return api.OK
}

// first is the place of the one that rings first, -1 if none waits.
func (r *row) first() int {
	best := -1
	for i, f := range r.waits {
		if best < 0 || f.At < r.waits[best].At {
			best = i
		}
	}
	return best
}

func (r *row) next() (int64, bool) {
	if i := r.first(); i >= 0 {
		return r.waits[i].At, true
	}
	return 0, false
}

func (r *row) advance(n int64) ([]api.Fire, api.Errno) {
	if n < 0 || n > 1<<24 {
		return nil, api.ErrArg
	}
	r.now += n
	var told []api.Fire
	for i := r.first(); i >= 0 && r.waits[i].At <= r.now; i = r.first() {
		told = append(told, r.waits[i])
		r.waits = slices.Delete(r.waits, i, i+1)
	}
	return told, api.OK
}

func mustAdd(t *testing.T, w *Wheel, at int64, id int) {
	t.Helper()
	if e := w.Add(at, id); e != api.OK {
		t.Fatal(at, id, e)
	}
}

func wantAdd(t *testing.T, w *Wheel, at int64, id int, want api.Errno) {
	t.Helper()
	if e := w.Add(at, id); e != want {
		t.Error(at, id, e, want)
	}
}

func wantCancel(t *testing.T, w *Wheel, id int, want api.Errno) {
	t.Helper()
	if e := w.Cancel(id); e != want {
		t.Error(id, e, want)
	}
}

func wantFires(t *testing.T, w *Wheel, n int64, want ...api.Fire) {
	t.Helper()
	if got, e := w.Advance(n); !slices.Equal(got, want) || e != api.OK {
		t.Error(n, got, e, want)
	}
}

func wantNext(t *testing.T, w *Wheel, want int64, there bool) {
	t.Helper()
	if at, ok := w.Next(); at != want || ok != there {
		t.Error(at, ok, want, there)
	}
}

func wantNow(t *testing.T, w *Wheel, want int64) {
	t.Helper()
	if now := w.Now(); now != want {
		t.Error(now, want)
	}
}

// full has timers of ids 0 to 199, each at 10.
func full(t *testing.T) *Wheel {
	t.Helper()
	w := New()
	for id := range 200 {
		mustAdd(t, w, 10, id)
	}
	return w
}

// P5: the numbers that this package leans on.
func TestNumbers(t *testing.T) {
	if api.MaxAhead != 16777216 || api.MaxTimers != 200 {
		t.Error(api.MaxAhead, api.MaxTimers)
	}
	if api.ErrArg != 1 || api.ErrRange != 4 || api.ErrNone != 5 || api.ErrThere != 6 || api.ErrFull != 7 || api.ErrLate != 11 {
		t.Error("numbers of errors")
	}
}

// P30 and P31: a new wheel.
func TestNew(t *testing.T) {
	w := New()
	wantNow(t, w, 0)
	wantNext(t, w, 0, false)
	wantCancel(t, w, 0, api.ErrNone)
	wantFires(t, w, 0)
	wantFires(t, w, 1<<24)
	wantNow(t, w, 1<<24)
}

// P30: the nearest and the farthest times, from the first time and from a later one.
func TestAddBounds(t *testing.T) {
	for _, now := range []int64{0, 1, 77, 1 << 24, 1<<24 + 5} {
		w := New()
		wantFires(t, w, now/2)
		wantFires(t, w, now-now/2)
		wantNow(t, w, now)
		for _, at := range []int64{now, now - 1, 0, -1, -1 << 24, math.MinInt64, math.MinInt64 + 1} {
			wantAdd(t, w, at, 1, api.ErrLate)
		}
		for _, at := range []int64{now + 1<<24 + 1, now + 1<<25, 1 << 40, math.MaxInt64 - 1, math.MaxInt64} {
			wantAdd(t, w, at, 1, api.ErrRange)
		}
		wantNext(t, w, 0, false)
		wantAdd(t, w, now+1, 1, api.OK)
		wantAdd(t, w, now+1<<24, 2, api.OK)
		wantNext(t, w, now+1, true)
		wantFires(t, w, 1<<24, api.Fire{At: now + 1, Id: 1}, api.Fire{At: now + 1<<24, Id: 2})
	}
}

// P30: any number is an id.
func TestAnyId(t *testing.T) {
	w := New()
	ids := []int{0, -1, 1, math.MinInt, math.MaxInt, 1 << 40, -7}
	var want []api.Fire
	for _, id := range ids {
		wantAdd(t, w, 9, id, api.OK)
		wantAdd(t, w, 8, id, api.ErrThere)
		want = append(want, api.Fire{At: 9, Id: id})
	}
	wantNext(t, w, 9, true)
	wantFires(t, w, 9, want...)
}

// P30: an id waits once; it is free again behind a cancel and behind its ring.
func TestOneOfAnId(t *testing.T) {
	w := New()
	mustAdd(t, w, 5, 1)
	wantAdd(t, w, 5, 1, api.ErrThere)
	wantAdd(t, w, 2, 1, api.ErrThere)
	wantNext(t, w, 5, true)
	wantCancel(t, w, 2, api.ErrNone)
	wantCancel(t, w, 1, api.OK)
	wantCancel(t, w, 1, api.ErrNone)
	wantNext(t, w, 0, false)
	wantFires(t, w, 5)
	mustAdd(t, w, 7, 1)
	wantFires(t, w, 2, api.Fire{At: 7, Id: 1})
	wantCancel(t, w, 1, api.ErrNone)
	mustAdd(t, w, 8, 1)
	wantNext(t, w, 8, true)
}

// P30: 200 may wait, and one more when one of them waits no more.
func TestFull(t *testing.T) {
	w := full(t)
	wantAdd(t, w, 10, 200, api.ErrFull)
	wantAdd(t, w, 1, -1, api.ErrFull)
	wantCancel(t, w, 200, api.ErrNone)
	wantCancel(t, w, 7, api.OK)
	wantAdd(t, w, 11, 200, api.OK)
	wantAdd(t, w, 11, 7, api.ErrFull)
	if l, e := w.Advance(10); len(l) != 199 || e != api.OK {
		t.Error(len(l), e)
	}
	for id := range 199 {
		wantAdd(t, w, 12, id, api.OK)
	}
	wantAdd(t, w, 12, 199, api.ErrFull)
}

// P30 and P3: late ahead of too far, of one that waits and of a full wheel; too far ahead of the other two; one that waits ahead of a full wheel.
func TestAddErrorOrder(t *testing.T) {
	w := full(t)
	wantFires(t, w, 3)
	for _, id := range []int{5, 999} {
		wantAdd(t, w, 3, id, api.ErrLate)
		wantAdd(t, w, 4+1<<24, id, api.ErrRange)
	}
	wantAdd(t, w, 4, 5, api.ErrThere)
	wantAdd(t, w, 4, 999, api.ErrFull)
	wantNow(t, w, 3)
	wantNext(t, w, 10, true)
	l, e := w.Advance(7)
	if len(l) != 200 || e != api.OK {
		t.Fatal(len(l), e)
	}
	for id, f := range l {
		if f != (api.Fire{At: 10, Id: id}) {
			t.Error(id, f)
		}
	}
}

// P31: no number of steps; nothing is changed by it.
func TestAdvanceWrong(t *testing.T) {
	w := New()
	wantFires(t, w, 2)
	mustAdd(t, w, 3, 1)
	for _, n := range []int64{-1, -2, -1 << 24, math.MinInt64, 1<<24 + 1, 1 << 25, math.MaxInt64} {
		if l, e := w.Advance(n); l != nil || e != api.ErrArg {
			t.Error(n, l, e)
		}
		wantNow(t, w, 2)
		wantNext(t, w, 3, true)
	}
	wantFires(t, w, 1<<24, api.Fire{At: 3, Id: 1})
	wantNow(t, w, 2+1<<24)
}

// P31: by their at, and those of one at as they were added: neither by their ids nor by where one of that id once stood.
func TestOrder(t *testing.T) {
	w := New()
	mustAdd(t, w, 20, 4)
	mustAdd(t, w, 10, 3)
	mustAdd(t, w, 10, 9)
	mustAdd(t, w, 20, 1)
	mustAdd(t, w, 10, 1000)
	mustAdd(t, w, 10, -1)
	wantCancel(t, w, 3, api.OK)
	mustAdd(t, w, 10, 3)
	wantNext(t, w, 10, true)
	wantFires(t, w, 9)
	wantNext(t, w, 10, true)
	mustAdd(t, w, 10, 2)
	wantFires(t, w, 11, api.Fire{At: 10, Id: 9}, api.Fire{At: 10, Id: 1000}, api.Fire{At: 10, Id: -1}, api.Fire{At: 10, Id: 3}, api.Fire{At: 10, Id: 2}, api.Fire{At: 20, Id: 4}, api.Fire{At: 20, Id: 1})
	wantNext(t, w, 0, false)
}

// P31: a timer rings at its time, not one ahead of it, and once.
func TestOnTheDot(t *testing.T) {
	for _, at := range []int64{1, 2, 63, 64, 65, 4095, 4096, 4097, 1<<18 - 1, 1 << 18, 1<<24 - 1, 1 << 24} {
		w := New()
		mustAdd(t, w, at, 1)
		wantFires(t, w, at-1)
		wantNext(t, w, at, true)
		wantFires(t, w, 0)
		wantFires(t, w, 1, api.Fire{At: at, Id: 1})
		wantNext(t, w, 0, false)
		wantFires(t, w, 0)
		wantFires(t, w, 1<<24)
	}
}

// P2: what is told is the caller's, and one wheel knows nothing of another one.
func TestOwnMemory(t *testing.T) {
	w, other := New(), New()
	mustAdd(t, w, 1, 1)
	mustAdd(t, w, 2, 2)
	wantNext(t, other, 0, false)
	wantFires(t, other, 5)
	wantNow(t, w, 0)
	first, _ := w.Advance(1)
	kept := slices.Clone(first)
	second, _ := w.Advance(1)
	if !slices.Equal(first, kept) {
		t.Error(first, kept)
	}
	for _, l := range [][]api.Fire{first, second} {
		l = l[:cap(l)]
		for i := range l {
			l[i] = api.Fire{At: 99, Id: 99}
		}
	}
	mustAdd(t, w, 3, 1)
	wantNext(t, w, 3, true)
	wantFires(t, w, 1, api.Fire{At: 3, Id: 1})
}

// play one step of any kind on both; near is how far the times lie from each other, ids how many there are.
func play(t *testing.T, r *rand.Rand, w *Wheel, o *row, near int64, ids int) {
	t.Helper()
	switch k := r.Intn(20); {
	case k < 13:
		at, id := o.now-2+r.Int63n(near), r.Intn(ids)-ids/2
		if want, e := o.add(at, id), w.Add(at, id); e != want {
			t.Fatal(at, id, e, want)
		}
	case k < 16:
		id := r.Intn(ids) - ids/2
		if want, e := o.cancel(id), w.Cancel(id); e != want {
			t.Fatal(id, e, want)
		}
	default:
		n := r.Int63n(near/8+3) - 1
		want, wantE := o.advance(n)
		got, e := w.Advance(n)
		if !slices.Equal(got, want) || e != wantE {
			t.Fatal(n, got, e, want, wantE)
		}
	}
	want, there := o.next()
	wantNext(t, w, want, there)
	wantNow(t, w, o.now)
}

// P30 and P31: any steps, against the row.
func TestAnySteps(t *testing.T) {
	r := rand.New(rand.NewSource(3))
	for _, near := range []int64{5, 12, 100, 3000, 1 << 20, 1<<24 + 9} {
		for _, ids := range []int{3, 20, 230, 1000000} {
			for range 10 {
				w, o := New(), &row{}
				for range 600 {
					play(t, r, w, o, near, ids)
				}
			}
		}
	}
}
