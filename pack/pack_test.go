package pack

import (
	"math"
	"math/rand"
	"slices"
	"testing"

	"shiftbell/api"
)

const units = 1099511627776

// of makes a list of things.
func of(l ...int64) []int64 { return l }

// in makes a list of the boxes of things.
func in(l ...int) []int { return l }

// same is n things of one size.
func same(n int, thing int64) []int64 { return slices.Repeat(of(thing), n) }

// The document told once more, without a call of the package.
func toldCheck(l []int64, size int64) api.Errno {
	if len(l) > 100 {
		return api.ErrLarge
	}
	if !(1 <= size && size <= units) {
		return api.ErrArg
	}
	for _, thing := range l {
		if !(1 <= thing && thing <= size) {
			return api.ErrRange
		}
	}
	return api.OK
}

// inside is how much lies in a box, of the things that have one.
func inside(l []int64, in []int, box int) int64 {
	var sum int64
	for i, b := range in {
		if b == box {
			sum += l[i]
		}
	}
	return sum
}

// unlike numbers among some.
func unlike(in []int) int {
	l := slices.Clone(in)
	slices.Sort(l)
	return len(slices.Compact(l))
}

// toldPut puts a thing where it has room among those that have a box; -1 is none yet.
func toldPut(l []int64, size int64, in []int, i int) {
	box := 0
	for inside(l, in, box)+l[i] > size {
		box++
	}
	in[i] = box
}

func toldFirst(l []int64, size int64) ([]int, int) {
	in := slices.Repeat([]int{-1}, len(l))
	for i := range l {
		toldPut(l, size, in, i)
	}
	return in, unlike(in)
}

// toldDown looks each time for the greatest thing that has no box yet, from the front.
func toldDown(l []int64, size int64) ([]int, int) {
	in := slices.Repeat([]int{-1}, len(l))
	for range l {
		next := -1
		for i := range l {
			if in[i] < 0 && (next < 0 || l[i] > l[next]) {
				next = i
			}
		}
		toldPut(l, size, in, next)
	}
	return in, unlike(in)
}

// toldLeast tries for each thing all boxes that are begun, and one more.
func toldLeast(l []int64, size int64, sums []int64) int {
	if len(l) == 0 {
		return len(sums)
	}
	least := toldLeast(l[1:], size, append(slices.Clone(sums), l[0]))
	for box := range sums {
		if sums[box]+l[0] <= size {
			with := slices.Clone(sums)
			with[box] += l[0]
			least = min(least, toldLeast(l[1:], size, with))
		}
	}
	return least
}

func toldBoxes(l []int64, size int64, in []int) (int, api.Errno) {
	if e := toldCheck(l, size); e != api.OK {
		return 0, e
	}
	if len(in) != len(l) {
		return 0, api.ErrArg
	}
	for _, box := range in {
		if box < 0 || inside(l, in, box) > size {
			return 0, api.ErrArg
		}
	}
	return unlike(in), api.OK
}

func wantFirst(t *testing.T, l []int64, size int64, in []int, n int) {
	t.Helper()
	if a, k, e := First(l, size); !slices.Equal(a, in) || k != n || e != api.OK {
		t.Error("First", l, size, a, k, e, in, n)
	}
}

func wantDown(t *testing.T, l []int64, size int64, in []int, n int) {
	t.Helper()
	if a, k, e := Down(l, size); !slices.Equal(a, in) || k != n || e != api.OK {
		t.Error("Down", l, size, a, k, e, in, n)
	}
}

func wantLeast(t *testing.T, l []int64, size int64, n int, want api.Errno) {
	t.Helper()
	if k, e := Least(l, size); k != n || e != want {
		t.Error("Least", l, size, k, e, n, want)
	}
}

func wantBoxes(t *testing.T, l []int64, size int64, in []int, n int, want api.Errno) {
	t.Helper()
	if k, e := Boxes(l, size, in); k != n || e != want {
		t.Error("Boxes", l, size, in, k, e, n, want)
	}
}

// wantWrong is an error that all calls have alike, and nothing beside it.
func wantWrong(t *testing.T, l []int64, size int64, want api.Errno) {
	t.Helper()
	if e := Check(l, size); e != want {
		t.Error("Check", l, size, e, want)
	}
	if a, n, e := First(l, size); a != nil || n != 0 || e != want {
		t.Error("First", l, size, a, n, e, want)
	}
	if a, n, e := Down(l, size); a != nil || n != 0 || e != want {
		t.Error("Down", l, size, a, n, e, want)
	}
	wantLeast(t, l, size, 0, want)
	apart := make([]int, len(l))
	for i := range apart {
		apart[i] = i
	}
	for _, in := range [][]int{nil, {0}, {-1}, make([]int, len(l)), apart} {
		wantBoxes(t, l, size, in, 0, want)
	}
}

// wantTold holds all calls against what the document says.
func wantTold(t *testing.T, l []int64, size int64) {
	t.Helper()
	if e := toldCheck(l, size); e != api.OK {
		wantWrong(t, l, size, e)
		return
	}
	if e := Check(l, size); e != api.OK {
		t.Error("Check", l, size, e)
	}
	first, n := toldFirst(l, size)
	wantFirst(t, l, size, first, n)
	wantBoxes(t, l, size, first, n, api.OK)
	down, k := toldDown(l, size)
	wantDown(t, l, size, down, k)
	wantBoxes(t, l, size, down, k, api.OK)
	if len(l) > 9 {
		wantLeast(t, l, size, 0, api.ErrLarge)
	} else {
		wantLeast(t, l, size, toldLeast(l, size, nil), api.OK)
	}
}

// P5: the numbers that this package leans on.
func TestNumbers(t *testing.T) {
	if api.MaxThings != 100 || api.MaxTried != 9 || api.MaxUnits != units {
		t.Error(api.MaxThings, api.MaxTried, api.MaxUnits)
	}
	if api.OK != 0 || api.ErrArg != 1 || api.ErrLarge != 2 || api.ErrRange != 4 {
		t.Error("numbers of errors")
	}
}

// P100 and P101: no things are in no boxes, whether there is no list of them or an empty one.
func TestNoThings(t *testing.T) {
	for _, l := range [][]int64{nil, {}} {
		for _, size := range of(1, 5, units) {
			wantTold(t, l, size)
			wantFirst(t, l, size, nil, 0)
			wantDown(t, l, size, nil, 0)
			wantLeast(t, l, size, 0, api.OK)
			wantBoxes(t, l, size, nil, 0, api.OK)
			wantBoxes(t, l, size, in(), 0, api.OK)
			wantBoxes(t, l, size, in(0), 0, api.ErrArg)
		}
	}
}

// P100: 100 things are not too many, 101 are.
func TestHowManyThings(t *testing.T) {
	for n := range 101 {
		wantTold(t, same(n, 1), 1)
		wantTold(t, same(n, 2), 7)
		wantTold(t, same(n, units), units)
	}
	for _, n := range []int{101, 102, 1000} {
		for _, size := range of(1, 10, units, 0, -1, units+1, math.MaxInt64, math.MinInt64) {
			for _, thing := range of(1, 0, -1, units+1) {
				wantWrong(t, same(n, thing), size, api.ErrLarge)
			}
		}
	}
}

// P100: a size is from 1 to 2^40, and is looked at ahead of the things.
func TestSize(t *testing.T) {
	for _, size := range of(1, 2, units-1, units) {
		wantTold(t, of(1, size), size)
	}
	for _, size := range of(0, -1, -units, units+1, 2*units, math.MaxInt64, math.MinInt64) {
		for _, l := range [][]int64{nil, {}, {1}, {0}, {size}, {-1, 1}, same(10, 1), same(100, 1), same(100, 0)} {
			wantWrong(t, l, size, api.ErrArg)
		}
	}
}

// P100: a thing is from 1 to the size, wherever it stands.
func TestThing(t *testing.T) {
	for _, size := range of(1, 2, 10, units) {
		for _, n := range []int{1, 2, 9, 10, 100} {
			for _, at := range []int{0, n / 2, n - 1} {
				l := same(n, 1)
				l[at] = size
				wantTold(t, l, size)
				for _, thing := range of(0, -1, -size, size+1, 2*size+1, units+1, math.MaxInt64, math.MinInt64) {
					l[at] = thing
					wantWrong(t, l, size, api.ErrRange)
				}
			}
		}
	}
}

// P101: each thing goes into the first box with room, not the last one, and not the one with the least room.
func TestFirst(t *testing.T) {
	for _, x := range []struct {
		l    []int64
		size int64
		in   []int
		n    int
	}{
		{of(6, 5, 4, 5), 10, in(0, 1, 0, 1), 2},
		{of(7), 7, in(0), 1},
		{of(5, 5, 5), 10, in(0, 0, 1), 2},
		{of(5, 6, 5), 10, in(0, 1, 0), 2},
		{of(6, 6, 6), 10, in(0, 1, 2), 3},
		// Both boxes have room: the first one has more.
		{of(5, 8, 2), 10, in(0, 1, 0), 2},
		// The first one has less.
		{of(8, 5, 2), 10, in(0, 1, 0), 2},
		// What does not fit the first one goes into the second, and the next one back into the first.
		{of(8, 5, 4, 2, 1), 10, in(0, 1, 1, 0, 1), 2},
		{of(9, 9, 9, 1, 1, 1, 1), 10, in(0, 1, 2, 0, 1, 2, 3), 4},
		{of(4, 4, 6, 6), 10, in(0, 0, 1, 2), 3},
		{of(units, 1, units-1, units), units, in(0, 1, 1, 2), 3},
	} {
		wantFirst(t, x.l, x.size, x.in, x.n)
		wantTold(t, x.l, x.size)
	}
}

// P101: the greatest thing is first, those of one size are in order, and the boxes are told in the order of l.
func TestDown(t *testing.T) {
	for _, x := range []struct {
		l    []int64
		size int64
		in   []int
		n    int
	}{
		{of(6, 5, 4, 5), 10, in(0, 1, 0, 1), 2},
		{of(4, 4, 6, 6), 10, in(0, 1, 0, 1), 2},
		{of(1, 2, 3), 3, in(1, 1, 0), 2},
		{of(1, 9, 5), 10, in(0, 0, 1), 2},
		{of(2, 2, 2, 3), 5, in(0, 1, 1, 0), 2},
		{of(5, 5, 5), 10, in(0, 0, 1), 2},
		{of(3, 7, 3, 7, 3), 10, in(0, 0, 1, 1, 2), 3},
		{of(6, 4, 4, 4, 3, 3, 3, 3), 15, in(0, 0, 0, 1, 1, 1, 1, 2), 3},
		// In order they would go into two boxes.
		{of(6, 8, 3, 7, 5, 5), 17, in(1, 0, 2, 0, 1, 1), 3},
		{of(1, units, units-1), units, in(1, 0, 1), 2},
	} {
		wantDown(t, x.l, x.size, x.in, x.n)
		wantTold(t, x.l, x.size)
	}
}

// P101: of one size the first in order goes first, also where things are many.
func TestDownInOrder(t *testing.T) {
	for _, n := range []int{13, 50, 100} {
		l, boxes := same(n, 1), make([]int, n)
		for i := range l {
			boxes[i] = i / 3
		}
		wantDown(t, l, 3, boxes, (n+2)/3)
		// Twos lie one to a box, and the ones beside them, both in order.
		for i := range l {
			l[i] = 1 + int64(i%2)
			boxes[i] = i / 2
		}
		wantDown(t, l, 3, boxes, (n+1)/2)
	}
}

// P101: the least number, where first fit finds it and where it does not.
func TestLeast(t *testing.T) {
	for _, x := range []struct {
		l    []int64
		size int64
		n    int
	}{
		{of(6, 5, 4, 5), 10, 2},
		{of(4, 4, 6, 6), 10, 2},
		{of(6, 4, 4, 4, 3, 3, 3, 3), 15, 2},
		{of(10), 10, 1},
		{of(1), units, 1},
		{of(6, 6, 6), 10, 3},
		{of(1, 1, 1, 1, 1, 1, 1, 1, 1), 9, 1},
		{of(1, 1, 1, 1, 1, 1, 1, 1, 1), 8, 2},
		{of(1, 1, 1, 1, 1, 1, 1, 1, 1), 1, 9},
		{of(4, 4, 4, 3, 3, 3, 2, 2, 2), 9, 3},
		{of(5, 5, 5, 3, 3, 3, 2, 2, 2), 10, 3},
		{of(units/2+1, units/2+1, units/2-1, units/2-1), units, 2},
		{of(units/2+1, units/2, units/2, units/2+1), units, 3},
		{same(9, units), units, 9},
	} {
		wantLeast(t, x.l, x.size, x.n, api.OK)
		wantTold(t, x.l, x.size)
	}
}

// P101: 9 things are not too many to try, 10 are; but what Check tells is ahead of that.
func TestHowManyTried(t *testing.T) {
	for n := range 101 {
		want, k := api.ErrLarge, 0
		if n <= 9 {
			want, k = api.OK, (n+1)/2
		}
		wantLeast(t, same(n, 4), 9, k, want)
	}
	wantWrong(t, same(10, 1), 0, api.ErrArg)
	wantWrong(t, same(10, 2), 1, api.ErrRange)
}

// P100: as many numbers as things, none below 0, and never too much in one box.
func TestBoxes(t *testing.T) {
	for _, x := range []struct {
		in   []int
		n    int
		want api.Errno
	}{
		{in(0, 0, 1), 2, api.OK},
		{in(0, 0, 0), 0, api.ErrArg},
		{in(1, 0, 1), 2, api.OK},
		{in(0, 1, 1), 2, api.OK},
		{in(2, 1, 0), 3, api.OK},
		{in(5, 5, 7), 2, api.OK},
		{in(math.MaxInt, 0, math.MaxInt), 2, api.OK},
		{in(math.MaxInt, math.MaxInt, math.MaxInt), 0, api.ErrArg},
		{in(100, 101, 1<<40), 3, api.OK},
		{nil, 0, api.ErrArg},
		{in(), 0, api.ErrArg},
		{in(0, 0), 0, api.ErrArg},
		{in(0, 0, 1, 1), 0, api.ErrArg},
		{in(0, 0, 1, -1), 0, api.ErrArg},
		{in(-1, 0, 1), 0, api.ErrArg},
		{in(0, -1, 1), 0, api.ErrArg},
		{in(0, 0, -1), 0, api.ErrArg},
		{in(-1, -1, -1), 0, api.ErrArg},
		{in(0, 1, math.MinInt), 0, api.ErrArg},
	} {
		wantBoxes(t, of(2, 3, 1), 5, x.in, x.n, x.want)
	}
	// As much as the size, and one more.
	wantBoxes(t, of(units/2, units/2), units, in(3, 3), 1, api.OK)
	wantBoxes(t, of(units/2, units/2+1), units, in(3, 3), 0, api.ErrArg)
	wantBoxes(t, same(100, units), units, make([]int, 100), 0, api.ErrArg)
	wantBoxes(t, same(100, units/100), units, make([]int, 100), 1, api.OK)
	// Only what is in one box counts together, wherever it stands.
	wantBoxes(t, of(3, 1, 3, 1, 1), 4, in(0, 1, 2, 0, 2), 3, api.OK)
	wantBoxes(t, of(3, 1, 3, 1, 2), 4, in(0, 1, 2, 0, 2), 0, api.ErrArg)
}

// rows calls f with each row of up to n numbers from least to most.
func rows[T int | int64](n int, least, most T, f func([]T)) {
	var more func(l []T)
	more = func(l []T) {
		f(l)
		if len(l) == n {
			return
		}
		for x := least; x <= most; x++ {
			more(append(slices.Clone(l), x))
		}
	}
	more(nil)
}

// P100 and P101: all rows of a few small things, right and wrong, in small boxes.
func TestAllSmall(t *testing.T) {
	for size := int64(0); size <= 6; size++ {
		rows(5, 0, size+1, func(l []int64) { wantTold(t, l, size) })
	}
	rows(7, 1, 4, func(l []int64) { wantTold(t, l, 5) })
}

// P100: a few small things in any boxes.
func TestAllBoxes(t *testing.T) {
	for _, l := range [][]int64{nil, {1}, {2, 3}, {3, 2}, {4, 1, 3}, {1, 1, 2, 2}, {2, 2, 2, 2}, {5, 1, 4, 1, 3}, {6, 1}} {
		rows(len(l)+1, -1, 4, func(in []int) {
			n, e := toldBoxes(l, 5, in)
			wantBoxes(t, l, 5, in, n, e)
		})
	}
}

// anyThings are n things; the greatest one of them is no more than the share of the size.
func anyThings(r *rand.Rand, n int, size, share int64) []int64 {
	l := make([]int64, n)
	for i := range l {
		l[i] = 1 + r.Int63n(max(size/share, 1))
	}
	return l
}

// P100 and P101: any things in boxes of any size, few and many.
func TestAnyThings(t *testing.T) {
	r := rand.New(rand.NewSource(100))
	for i := range 6000 {
		n := r.Intn(101)
		if i%2 == 0 {
			n = r.Intn(10)
		}
		size := of(3, 10, 30, 1000, units)[r.Intn(5)]
		l := anyThings(r, n, size, 1+r.Int63n(4))
		wantTold(t, l, size)
		boxes := make([]int, n)
		for k := range boxes {
			boxes[k] = r.Intn(2 * n)
		}
		k, e := toldBoxes(l, size, boxes)
		wantBoxes(t, l, size, boxes, k, e)
		if t.Failed() {
			t.FailNow()
		}
	}
}

// P101 by what it is for: things that were cut from full boxes go back into as many, and neither First nor Down takes fewer.
func TestFullBoxes(t *testing.T) {
	r := rand.New(rand.NewSource(101))
	for range 3000 {
		n := 1 + r.Intn(5)
		size := 20 + r.Int63n(units-19)
		var l []int64
		for box := range n {
			left := size
			for cuts := r.Intn((9 - len(l)) / (n - box)); cuts > 0 && left > 1; cuts-- {
				cut := 1 + r.Int63n(left-1)
				l = append(l, cut)
				left -= cut
			}
			l = append(l, left)
		}
		r.Shuffle(len(l), func(i, k int) { l[i], l[k] = l[k], l[i] })
		wantLeast(t, l, size, n, api.OK)
		_, first, _ := First(l, size)
		_, down, _ := Down(l, size)
		if first < n || down < n {
			t.Fatal(l, size, first, down, n)
		}
	}
}

// P2: what is handed in stays, the room behind it included; what is told is the caller's, and the same again.
func TestOwnMemory(t *testing.T) {
	room, boxRoom := of(9, 4, 5, 6, 5, 9), in(9, 1, 0, 1, 0, 9)
	l, boxes := room[1:5], boxRoom[1:5]
	first, _, _ := First(l, 10)
	down, _, _ := Down(l, 10)
	Least(l, 10)
	Boxes(l, 10, boxes)
	Check(l, 10)
	if !slices.Equal(room, of(9, 4, 5, 6, 5, 9)) || !slices.Equal(boxRoom, in(9, 1, 0, 1, 0, 9)) {
		t.Error(room, boxRoom)
	}
	kept := slices.Clone(l)
	clear(room)
	clear(boxRoom)
	if !slices.Equal(first, in(0, 0, 1, 2)) || !slices.Equal(down, in(0, 1, 0, 1)) {
		t.Error(first, down)
	}
	for _, told := range [][]int{first, down} {
		told = told[:cap(told)]
		for i := range told {
			told[i] = 77
		}
	}
	wantTold(t, kept, 10)
	wantBoxes(t, kept, 10, in(1, 0, 1, 0), 2, api.OK)
}
