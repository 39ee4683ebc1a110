package share

import (
	"math"
	"math/big"
	"math/rand"
	"slices"
	"testing"

	"shiftbell/api"
)

const (
	most = 1 << 40
	span = 1000000000
)

// of makes a list of what is asked for, of weights, or of shares.
func of(l ...int64) []int64 { return l }

// same is n times the same.
func same(n int, x int64) []int64 { return slices.Repeat(of(x), n) }

// with is a list with more behind it.
func with(l []int64, more ...int64) []int64 { return append(slices.Clone(l), more...) }

// The document told once more, without a call of the package.
func toldCheck(all int64, l []int64) api.Errno {
	if !(0 <= all && all <= most) {
		return api.ErrArg
	}
	if len(l) > 100 {
		return api.ErrLarge
	}
	for _, n := range l {
		if !(0 <= n && n <= most) {
			return api.ErrRange
		}
	}
	return api.OK
}

func toldSum(l []int64) int64 {
	var sum int64
	for _, n := range l {
		sum += n
	}
	return sum
}

// toldUpTo is what each has that asks for so much, but not more than n.
func toldUpTo(l []int64, n int64) []int64 {
	has := make([]int64, len(l))
	for i, asked := range l {
		has[i] = asked
		if asked > n {
			has[i] = n
		}
	}
	return has
}

// toldLevel halves what is between a number for which all is enough and one for which it is not.
func toldLevel(all int64, l []int64) int64 {
	enough, tooMuch := int64(0), int64(most+1)
	for enough+1 < tooMuch {
		n := (enough + tooMuch) / 2
		if toldSum(toldUpTo(l, n)) <= all {
			enough = n
		} else {
			tooMuch = n
		}
	}
	return enough
}

// toldStep looks at one number behind the other, as far as one of them.
func toldStep(all int64, l []int64, last int64) int64 {
	var level int64
	for n := int64(0); n <= last; n++ {
		if toldSum(toldUpTo(l, n)) <= all {
			level = n
		}
	}
	return level
}

func toldSplit(all int64, l []int64) []int64 {
	level := toldLevel(all, l)
	has := toldUpTo(l, level)
	for i, asked := range l {
		if toldSum(has) < all && asked > level {
			has[i] = level + 1
		}
	}
	return has
}

// toldDeal hands all out one by one: the next one goes to the first of those who have least and ask for more.
func toldDeal(all int64, l []int64) []int64 {
	has := make([]int64, len(l))
	for range all {
		next := -1
		for i, asked := range l {
			if has[i] < asked && (next < 0 || has[i] < has[next]) {
				next = i
			}
		}
		if next < 0 {
			break
		}
		has[next]++
	}
	return has
}

func toldWhole(all int64, w []int64) ([]int64, api.Errno) {
	if e := toldCheck(all, w); e != api.OK {
		return nil, e
	}
	weights := toldSum(w)
	if weights == 0 {
		return nil, api.ErrNone
	}
	if weights > span {
		return nil, api.ErrLarge
	}
	has, rest := make([]int64, len(w)), make([]*big.Int, len(w))
	for i, x := range w {
		times := new(big.Int).Mul(big.NewInt(all), big.NewInt(x))
		part, left := new(big.Int).QuoRem(times, big.NewInt(weights), new(big.Int))
		has[i], rest[i] = part.Int64(), left
	}
	for toldSum(has) < all {
		next := 0
		for i := range rest {
			if rest[i].Cmp(rest[next]) > 0 {
				next = i
			}
		}
		has[next]++
		rest[next] = big.NewInt(-1)
	}
	return has, api.OK
}

func wantLevel(t *testing.T, all int64, l []int64, want int64) {
	t.Helper()
	if n, e := Level(all, l); n != want || e != api.OK {
		t.Error("Level", all, l, n, e, want)
	}
}

func wantSplit(t *testing.T, all int64, l []int64, want []int64) {
	t.Helper()
	if a, e := Split(all, l); !slices.Equal(a, want) || e != api.OK {
		t.Error("Split", all, l, a, e, want)
	}
}

func wantWhole(t *testing.T, all int64, w []int64, want []int64) {
	t.Helper()
	if a, e := Whole(all, w); !slices.Equal(a, want) || e != api.OK {
		t.Error("Whole", all, w, a, e, want)
	}
}

// wantNoWhole is an error of Whole, and nothing beside it.
func wantNoWhole(t *testing.T, all int64, w []int64, want api.Errno) {
	t.Helper()
	if a, e := Whole(all, w); a != nil || e != want {
		t.Error("Whole", all, w, a, e, want)
	}
}

// wantWrong is an error that all calls have alike, and nothing beside it.
func wantWrong(t *testing.T, all int64, l []int64, want api.Errno) {
	t.Helper()
	if e := Check(all, l); e != want {
		t.Error("Check", all, l, e, want)
	}
	if n, e := Level(all, l); n != 0 || e != want {
		t.Error("Level", all, l, n, e, want)
	}
	if a, e := Split(all, l); a != nil || e != want {
		t.Error("Split", all, l, a, e, want)
	}
	wantNoWhole(t, all, l, want)
}

// wantTold holds all calls against what the document says.
func wantTold(t *testing.T, all int64, l []int64) {
	t.Helper()
	if e := toldCheck(all, l); e != api.OK {
		wantWrong(t, all, l, e)
		return
	}
	if e := Check(all, l); e != api.OK {
		t.Error("Check", all, l, e)
	}
	wantLevel(t, all, l, toldLevel(all, l))
	wantSplit(t, all, l, toldSplit(all, l))
	if a, e := toldWhole(all, l); e == api.OK {
		wantWhole(t, all, l, a)
	} else {
		wantNoWhole(t, all, l, e)
	}
}

// P5: the numbers that this package leans on.
func TestNumbers(t *testing.T) {
	if api.MaxUnits != most || api.MaxThings != 100 || api.MaxSpan != span {
		t.Error(int64(api.MaxUnits), api.MaxThings, api.MaxSpan)
	}
	if api.OK != 0 || api.ErrArg != 1 || api.ErrLarge != 2 || api.ErrRange != 4 || api.ErrNone != 5 {
		t.Error("numbers of errors")
	}
}

// P120: all is from 0 to 2^40, which is looked at ahead of those who ask.
func TestHowMuchThereIs(t *testing.T) {
	for _, all := range of(0, 1, 2, 99, most-1, most) {
		for _, l := range [][]int64{nil, {}, {0}, {1}, {most}, {3, 0, most, most - 1}, same(100, 1), same(100, most)} {
			if e := Check(all, l); e != api.OK {
				t.Error(all, l, e)
			}
			wantTold(t, all, l)
		}
	}
	for _, all := range of(-1, -2, -most, most+1, most+2, 2*most, math.MaxInt64, math.MinInt64) {
		for _, l := range [][]int64{nil, {}, {0}, {1}, {-1}, {most + 1}, {0, 0}, {span, 1}, same(100, 1), same(101, 1), same(101, -1)} {
			wantWrong(t, all, l, api.ErrArg)
		}
	}
}

// P120: up to 100 of them, which is looked at ahead of what they ask for.
func TestHowManyAsk(t *testing.T) {
	for _, n := range []int{1, 2, 99, 100} {
		for _, x := range of(0, 1, 7, span/100, most) {
			for _, all := range of(0, 1, 99, 100, 101, 1000, most) {
				wantTold(t, all, same(n, x))
			}
		}
	}
	for _, n := range []int{101, 102, 1000} {
		for _, x := range of(0, 1, most, -1, most+1) {
			wantWrong(t, 0, same(n, x), api.ErrLarge)
			wantWrong(t, 5, same(n, x), api.ErrLarge)
			wantWrong(t, most, same(n, x), api.ErrLarge)
		}
	}
}

// P120: each asks for 0 to 2^40, wherever it stands.
func TestHowMuchEachAsks(t *testing.T) {
	for _, wrong := range of(-1, -most, most+1, 2*most, math.MaxInt64, math.MinInt64) {
		for _, all := range of(0, 1, most) {
			wantWrong(t, all, of(wrong), api.ErrRange)
			wantWrong(t, all, of(wrong, 1, 1), api.ErrRange)
			wantWrong(t, all, of(1, wrong, 1), api.ErrRange)
			wantWrong(t, all, of(1, 1, wrong), api.ErrRange)
			wantWrong(t, all, with(same(99, 0), wrong), api.ErrRange)
			wantWrong(t, all, of(wrong, most, most), api.ErrRange)
			wantWrong(t, all, of(wrong, -wrong), api.ErrRange)
		}
	}
}

// P120, P121: with nobody who asks, the Level is the greatest one, and there is nothing to split.
func TestNobodyAsks(t *testing.T) {
	for _, all := range of(0, 1, most) {
		for _, l := range [][]int64{nil, {}} {
			wantLevel(t, all, l, most)
			wantSplit(t, all, l, nil)
			wantNoWhole(t, all, l, api.ErrNone)
		}
		for _, n := range []int{1, 2, 100} {
			wantLevel(t, all, same(n, 0), most)
			wantSplit(t, all, same(n, 0), same(n, 0))
			wantNoWhole(t, all, same(n, 0), api.ErrNone)
		}
	}
}

// P120, P121: the Level, and who has what.
func TestSplit(t *testing.T) {
	for _, x := range []struct {
		all   int64
		l     []int64
		level int64
		want  []int64
	}{
		{10, of(3, 9), 7, of(3, 7)},
		{10, of(9, 3), 7, of(7, 3)},
		{10, of(5, 5), most, of(5, 5)},
		{9, of(5, 5), 4, of(5, 4)},
		{11, of(5, 5), most, of(5, 5)},
		{0, of(5, 5), 0, of(0, 0)},
		{1, of(5, 5), 0, of(1, 0)},
		{2, of(5, 5), 1, of(1, 1)},
		{3, of(5, 5), 1, of(2, 1)},
		{10, of(5, 5, 5), 3, of(4, 3, 3)},
		{11, of(5, 5, 5), 3, of(4, 4, 3)},
		{12, of(5, 5, 5), 4, of(4, 4, 4)},
		// Who asks for no more than the Level has nothing of what is left.
		{11, of(5, 1, 5, 9), 3, of(4, 1, 3, 3)},
		{12, of(1, 5, 5, 9), 3, of(1, 4, 4, 3)},
		{11, of(3, 4, 4), most, of(3, 4, 4)},
		{10, of(3, 4, 4), 3, of(3, 4, 3)},
		{11, of(4, 3, 5, 3), 2, of(3, 3, 3, 2)},
		{13, of(3, 5, 3, 5), 3, of(3, 4, 3, 3)},
		{1, of(0, 5, 5), 0, of(0, 1, 0)},
		{3, of(0, 1, 0, 1, 1, 1), 0, of(0, 1, 0, 1, 1, 0)},
		{6, of(1, 2, 3), most, of(1, 2, 3)},
		{5, of(1, 2, 3), 2, of(1, 2, 2)},
		{5, of(3, 2, 1), 2, of(2, 2, 1)},
		{4, of(1, 2, 3), 1, of(1, 2, 1)},
		{4, of(3, 2, 1), 1, of(2, 1, 1)},
		{5, of(7), 5, of(5)},
		{6, of(7), 6, of(6)},
		{7, of(7), most, of(7)},
		{8, of(7), most, of(7)},
		{0, of(1), 0, of(0)},
		{100, of(5, 1), most, of(5, 1)},
		{most, of(most), most, of(most)},
		{most - 1, of(most), most - 1, of(most - 1)},
		{most, of(most, 1), most - 1, of(most-1, 1)},
		{most, of(most, 0), most, of(most, 0)},
		{most, of(most, most), most / 2, of(most/2, most/2)},
		{most, of(most, most, most), 366503875925, of(366503875926, 366503875925, 366503875925)},
		{most, of(most, most-1), most / 2, of(most/2, most/2)},
		{most, of(most/2, most/2), most, of(most/2, most/2)},
		{most, of(most/2+1, most/2), most / 2, of(most/2, most/2)},
	} {
		wantLevel(t, x.all, x.l, x.level)
		wantSplit(t, x.all, x.l, x.want)
		wantTold(t, x.all, x.l)
	}
	// 76 of 100 have one more: 2^40 is 100 times 10995116277, and 76.
	wantLevel(t, most, same(100, most), 10995116277)
	wantSplit(t, most, same(100, most), with(same(76, 10995116278), same(24, 10995116277)...))
	wantLevel(t, 99, same(100, most), 0)
	wantSplit(t, 99, same(100, most), with(same(99, 1), 0))
}

// P122: whole parts, and who has what is left.
func TestWhole(t *testing.T) {
	for _, x := range []struct {
		all  int64
		w    []int64
		want []int64
	}{
		{10, of(1, 1, 1), of(4, 3, 3)},
		{11, of(1, 1, 1), of(4, 4, 3)},
		{12, of(1, 1, 1), of(4, 4, 4)},
		{10, of(5, 3, 2), of(5, 3, 2)},
		{7, of(1, 3, 3), of(1, 3, 3)},
		{5, of(1, 2, 4), of(1, 1, 3)},
		{5, of(4, 2, 1), of(3, 1, 1)},
		{1, of(0, 1, 2), of(0, 0, 1)},
		{1, of(1, 1), of(1, 0)},
		{1, of(0, 1, 1), of(0, 1, 0)},
		{0, of(1, 2, 3), of(0, 0, 0)},
		{9, of(7), of(9)},
		{9, of(0, 7, 0), of(0, 9, 0)},
		// The greatest remainder is not that of the greatest weight.
		{10, of(6, 6, 2), of(4, 4, 2)},
		{4, of(5, 3, 1), of(2, 1, 1)},
		// One more to share, and one has less.
		{11, of(6, 6, 2), of(5, 5, 1)},
		// More than one of one remainder, ahead of a lesser one and behind a greater one.
		{5, of(2, 3, 3, 4), of(1, 1, 1, 2)},
		{6, of(1, 1, 1, 1), of(2, 2, 1, 1)},
		{7, of(3, 1, 3, 1, 2), of(2, 1, 2, 1, 1)},
		{1, of(3, 3, 3), of(1, 0, 0)},
		{2, of(1, 3, 3), of(0, 1, 1)},
		// Weights need not be what is shared.
		{2, of(span-1, 1), of(2, 0)},
		{3, of(1, span-1), of(0, 3)},
		{span, of(span-1, 1), of(span-1, 1)},
		{1, of(span/2, span/2), of(1, 0)},
		{1, of(span/2-1, span/2), of(0, 1)},
		{most, of(1), of(most)},
		{most, of(span), of(most)},
		{most, of(0, span), of(0, most)},
		{most, of(1, span-1), of(1100, most-1100)},
		{most, of(span-1, 1), of(most-1100, 1100)},
		{most, of(span/2, span/2), of(most/2, most/2)},
		{most, of(333333333, 333333333, 333333334), of(366503875559, 366503875559, 366503876658)},
		{most - 1, of(1, 1), of(most/2, most/2-1)},
	} {
		wantWhole(t, x.all, x.w, x.want)
		wantTold(t, x.all, x.w)
	}
	wantWhole(t, most, same(100, span/100), with(same(76, 10995116278), same(24, 10995116277)...))
	wantWhole(t, 99, same(100, 1), with(same(99, 1), 0))
}

// P122: weights that are 0 together are ErrNone, and more than 10^9 together are ErrLarge.
func TestWeights(t *testing.T) {
	for _, all := range of(0, 1, 5, most) {
		for _, w := range [][]int64{nil, {}, {0}, {0, 0}, same(100, 0)} {
			wantNoWhole(t, all, w, api.ErrNone)
		}
		for _, w := range [][]int64{{1}, {span}, {span - 1, 1}, {0, span}, same(100, span/100), same(100, 1)} {
			wantTold(t, all, w)
			if _, e := Whole(all, w); e != api.OK {
				t.Error(all, w, e)
			}
		}
		for _, w := range [][]int64{{span + 1}, {span, 1}, {1, span}, {most}, with(same(99, span/100), span/100+1), same(100, span/100+1), same(100, most)} {
			wantNoWhole(t, all, w, api.ErrLarge)
		}
		// What Check says is ahead of both.
		wantWrong(t, all, of(0, -1), api.ErrRange)
		wantWrong(t, all, of(span, span, -1), api.ErrRange)
		wantWrong(t, all, same(101, 0), api.ErrLarge)
	}
	wantWrong(t, -1, nil, api.ErrArg)
	wantWrong(t, most+1, of(0), api.ErrArg)
	wantWrong(t, most+1, of(span+1), api.ErrArg)
}

// rows calls f with each row of up to n numbers from least to most.
func rows(n int, least, most int64, f func([]int64)) {
	var more func(l []int64)
	more = func(l []int64) {
		f(l)
		if len(l) == n {
			return
		}
		for x := least; x <= most; x++ {
			more(with(l, x))
		}
	}
	more(nil)
}

// P120 to P122: all rows of a few, right and wrong, of whom each asks for little.
func TestAllSmall(t *testing.T) {
	for all := int64(-1); all <= 14; all++ {
		rows(4, -1, 4, func(l []int64) { wantTold(t, all, l) })
		rows(5, 0, 3, func(l []int64) {
			wantTold(t, all, l)
			if all < 0 {
				return
			}
			wantSplit(t, all, l, toldDeal(all, l))
			if toldSum(l) > all {
				wantLevel(t, all, l, toldStep(all, l, 4))
			}
		})
	}
}

// anyList has n numbers up to one of them, some of them that or 0.
func anyList(r *rand.Rand, n int, most int64) []int64 {
	l := make([]int64, n)
	for i := range l {
		switch r.Intn(8) {
		case 0:
			l[i] = most
		case 1:
			l[i] = 0
		default:
			l[i] = r.Int63n(most + 1)
		}
	}
	return l
}

// anyCount is mostly small.
func anyCount(r *rand.Rand) int {
	if r.Intn(3) == 0 {
		return r.Intn(101)
	}
	return r.Intn(9)
}

// anyAll is any number that is right, one near what is asked for, or one below it.
func anyAll(r *rand.Rand, asked int64) int64 {
	switch r.Intn(4) {
	case 0:
		return r.Int63n(most + 1)
	case 1:
		return min(max(asked-3+r.Int63n(7), 0), most)
	}
	return min(r.Int63n(asked+1), most)
}

// P120 to P122: any lists, of little and of much, some of them with a wrong number in them.
func TestAny(t *testing.T) {
	r := rand.New(rand.NewSource(120))
	for i := range 30000 {
		n := anyCount(r)
		l := anyList(r, n, of(1, 3, 20, 1000, span/100, span/7, span, most)[r.Intn(8)])
		all := anyAll(r, toldSum(l))
		wantTold(t, all, l)
		if i%10 == 0 && n > 0 {
			l[r.Intn(n)] = of(-1, most+1, math.MaxInt64, math.MinInt64)[r.Intn(4)]
			wantTold(t, all, l)
		}
		if t.Failed() {
			t.FailNow()
		}
	}
}

// P121 by what it is for: nothing is wasted, and who has less than it asks for lacks at most one of what any other one has.
func TestSplitIsFair(t *testing.T) {
	r := rand.New(rand.NewSource(121))
	for range 5000 {
		l := anyList(r, anyCount(r), of(5, 1000, most)[r.Intn(3)])
		all := anyAll(r, toldSum(l))
		a, e := Split(all, l)
		if e != api.OK || len(a) != len(l) || toldSum(a) != min(all, toldSum(l)) {
			t.Fatal(all, l, a, e)
		}
		for i := range a {
			if a[i] < 0 || a[i] > l[i] {
				t.Fatal(all, l, a, i)
			}
			for k := range a {
				if a[i] < l[i] && (a[k] > a[i]+1 || a[k] > a[i] && k > i) {
					t.Fatal(all, l, a, i, k)
				}
			}
		}
	}
}

// P121: with one more to share one of them has one more, as long as one asks for it.
func TestSplitOneMore(t *testing.T) {
	r := rand.New(rand.NewSource(122))
	for range 5000 {
		l := anyList(r, anyCount(r), of(5, 1000, most/100)[r.Intn(3)])
		all := min(anyAll(r, toldSum(l)), most-1)
		a, _ := Split(all, l)
		b, e := Split(all+1, l)
		if e != api.OK || toldSum(b)-toldSum(a) != min(1, toldSum(l)-toldSum(a)) {
			t.Fatal(all, l, a, b, e)
		}
		for i := range a {
			if b[i] < a[i] {
				t.Fatal(all, l, a, b)
			}
		}
	}
}

// P122 by what it is for: nothing is wasted, each has its part or the one less than one above it, and none of no weight has any.
func TestWholeIsFair(t *testing.T) {
	r := rand.New(rand.NewSource(123))
	for range 5000 {
		w := with(anyList(r, r.Intn(100), of(3, 1000, span/101)[r.Intn(3)]), 1)
		all := anyAll(r, toldSum(w))
		a, e := Whole(all, w)
		if e != api.OK || len(a) != len(w) || toldSum(a) != all {
			t.Fatal(all, w, a, e)
		}
		weights := big.NewInt(toldSum(w))
		for i := range a {
			part := new(big.Int).Mul(big.NewInt(all), big.NewInt(w[i]))
			off := part.Sub(part, new(big.Int).Mul(weights, big.NewInt(a[i])))
			if off.CmpAbs(weights) >= 0 || w[i] == 0 && a[i] != 0 {
				t.Fatal(all, w, a, i)
			}
		}
	}
}

// P122: so many times as much to share is so many times as much for each whose part was whole, and weights count by each other.
func TestWholeByMeasure(t *testing.T) {
	r := rand.New(rand.NewSource(124))
	for range 3000 {
		w := with(anyList(r, r.Intn(20), 1000), 1)
		all, times := r.Int63n(most+1), 1+r.Int63n(1000)
		a, _ := Whole(all, w)
		more := make([]int64, len(w))
		exact := make([]int64, len(w))
		for i := range w {
			more[i] = w[i] * times
			exact[i] = w[i] * (all / toldSum(w))
		}
		wantWhole(t, all, more, a)
		wantWhole(t, toldSum(exact), w, exact)
	}
}

// P2: what is handed in stays, the room behind it included; what is told is the caller's, and the same again.
func TestOwnMemory(t *testing.T) {
	room := of(9, 5, 1, 5, 9, 9)
	l := room[1:5]
	Check(11, l)
	Level(11, l)
	split, _ := Split(11, l)
	whole, _ := Whole(11, l)
	if !slices.Equal(room, of(9, 5, 1, 5, 9, 9)) {
		t.Error(room)
	}
	kept := slices.Clone(l)
	clear(room)
	for range 2 {
		if !slices.Equal(split, of(4, 1, 3, 3)) || !slices.Equal(whole, of(3, 0, 3, 5)) {
			t.Error(split, whole)
		}
		for _, told := range [][]int64{split, whole} {
			told = told[:cap(told)]
			for i := range told {
				told[i] = 77
			}
		}
		split, _ = Split(11, kept)
		whole, _ = Whole(11, kept)
	}
	enough := of(5, 1)
	split, _ = Split(100, enough)
	split[0] = 77
	wantTold(t, 100, enough)
	wantSplit(t, 100, enough, of(5, 1))
	wantTold(t, 11, kept)
}
