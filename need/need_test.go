package need

import (
	"math"
	"math/big"
	"math/rand"
	"regexp"
	"slices"
	"strconv"
	"strings"
	"testing"

	"shiftbell/api"
)

const units = 1099511627776

// of so much Cpu, Mem and Gpu.
func of(cpu, mem, gpu int64) api.Need { return api.Need{Cpu: cpu, Mem: mem, Gpu: gpu} }

// eachOf some amounts, in all ways to choose three of them.
func eachOf(amounts ...int64) []api.Need {
	var l []api.Need
	for _, cpu := range amounts {
		for _, mem := range amounts {
			for _, gpu := range amounts {
				l = append(l, of(cpu, mem, gpu))
			}
		}
	}
	return l
}

// wrong needs: one amount alone that there can't be, beside small ones and the greatest.
func wrong() []api.Need {
	var l []api.Need
	for _, n := range []int64{-1, -2, -units, math.MinInt64, units + 1, 2 * units, math.MaxInt64} {
		for _, other := range []int64{0, 1, units} {
			l = append(l, of(n, other, other), of(other, n, other), of(other, other, n))
		}
	}
	return l
}

// The document told once more, amount by amount.
func toldCheck(l ...api.Need) api.Errno {
	for _, a := range l {
		for _, n := range []int64{a.Cpu, a.Mem, a.Gpu} {
			if n < 0 || n > units {
				return api.ErrRange
			}
		}
	}
	return api.OK
}

func toldFits(a, b api.Need) (bool, api.Errno) {
	if e := toldCheck(a, b); e != api.OK {
		return false, e
	}
	return !(a.Cpu > b.Cpu || a.Mem > b.Mem || a.Gpu > b.Gpu), api.OK
}

func toldAdd(a, b api.Need) (api.Need, api.Errno) {
	if e := toldCheck(a, b); e != api.OK {
		return api.Need{}, e
	}
	c := of(a.Cpu+b.Cpu, a.Mem+b.Mem, a.Gpu+b.Gpu)
	if max(c.Cpu, c.Mem, c.Gpu) > units {
		return api.Need{}, api.ErrLarge
	}
	return c, api.OK
}

func toldSub(a, b api.Need) (api.Need, api.Errno) {
	if e := toldCheck(a, b); e != api.OK {
		return api.Need{}, e
	}
	c := of(a.Cpu-b.Cpu, a.Mem-b.Mem, a.Gpu-b.Gpu)
	if min(c.Cpu, c.Mem, c.Gpu) < 0 {
		return api.Need{}, api.ErrOver
	}
	return c, api.OK
}

// manyFit says whether so many of one amount are not more than another one, without a bound on what they make.
func manyFit(many, n, there int64) bool {
	all := new(big.Int).Mul(big.NewInt(many), big.NewInt(n))
	return all.Cmp(big.NewInt(there)) <= 0
}

// toldTimes is found by halves: so many fit, one more does not.
func toldTimes(a, b api.Need) (int64, api.Errno) {
	if e := toldCheck(a, b); e != api.OK {
		return 0, e
	}
	if a.Cpu == 0 && a.Mem == 0 && a.Gpu == 0 {
		return 0, api.ErrArg
	}
	can, cannot := int64(0), int64(units+1)
	for cannot-can > 1 {
		half := (can + cannot) / 2
		if manyFit(half, a.Cpu, b.Cpu) && manyFit(half, a.Mem, b.Mem) && manyFit(half, a.Gpu, b.Gpu) {
			can = half
		} else {
			cannot = half
		}
	}
	return can, api.OK
}

func toldText(a api.Need) (string, api.Errno) {
	if e := toldCheck(a); e != api.OK {
		return "", e
	}
	s := ""
	if a.Cpu != 0 {
		s += ",cpu=" + big.NewInt(a.Cpu).String()
	}
	if a.Mem != 0 {
		s += ",mem=" + big.NewInt(a.Mem).String()
	}
	if a.Gpu != 0 {
		s += ",gpu=" + big.NewInt(a.Gpu).String()
	}
	if s == "" {
		return "-", api.OK
	}
	return s[1:], api.OK
}

// items has one or more of the three, in order; what stands ahead of each comma is there, too.
var items = regexp.MustCompile(`\A(?:,cpu=([1-9][0-9]*))?(?:,mem=([1-9][0-9]*))?(?:,gpu=([1-9][0-9]*))?\z`)

func toldRead(s string) (api.Need, api.Errno) {
	if s == "-" {
		return api.Need{}, api.OK
	}
	found := items.FindStringSubmatch("," + s)
	if found == nil {
		return api.Need{}, api.ErrForm
	}
	var n [3]int64
	for i, digits := range found[1:] {
		number, ok := new(big.Int).SetString("0"+digits, 10)
		if !ok || !number.IsInt64() {
			return api.Need{}, api.ErrForm
		}
		n[i] = number.Int64()
	}
	if e := toldCheck(of(n[0], n[1], n[2])); e != api.OK {
		return api.Need{}, e
	}
	return of(n[0], n[1], n[2]), api.OK
}

func wantSum(t *testing.T, l []api.Need, want api.Need, err api.Errno) {
	t.Helper()
	if a, e := Sum(l); a != want || e != err {
		t.Error(len(l), a, e, want, err)
	}
}

func wantTimes(t *testing.T, a, b api.Need, want int64, err api.Errno) {
	t.Helper()
	if n, e := Times(a, b); n != want || e != err {
		t.Error(a, b, n, e, want, err)
	}
}

func wantRead(t *testing.T, s string, want api.Need, err api.Errno) {
	t.Helper()
	if a, e := Read(s); a != want || e != err {
		t.Errorf("%q: %v %v, not %v %v", s, a, e, want, err)
	}
}

func wantReadTold(t *testing.T, s string) {
	t.Helper()
	want, err := toldRead(s)
	wantRead(t, s, want, err)
}

// wantTold holds all calls of two needs against what the document says, but for Times, whose telling takes long.
func wantTold(t *testing.T, a, b api.Need) {
	t.Helper()
	fit, fitErr := toldFits(a, b)
	if ok, e := Fits(a, b); ok != fit || e != fitErr {
		t.Error("Fits", a, b, ok, e)
	}
	sum, sumErr := toldAdd(a, b)
	if c, e := Add(a, b); c != sum || e != sumErr {
		t.Error("Add", a, b, c, e)
	}
	wantSum(t, []api.Need{a, b}, sum, sumErr)
	less, lessErr := toldSub(a, b)
	if c, e := Sub(a, b); c != less || e != lessErr {
		t.Error("Sub", a, b, c, e)
	}
}

// wantTextTold holds Check and both ways of a text against what the document says.
func wantTextTold(t *testing.T, a api.Need) {
	t.Helper()
	if e := Check(a); e != toldCheck(a) {
		t.Error("Check", a, e)
	}
	want, err := toldText(a)
	s, e := Text(a)
	if s != want || e != err {
		t.Error("Text", a, s, e)
	}
	if e == api.OK {
		wantRead(t, s, a, api.OK)
	}
}

// P5: the numbers that this package leans on.
func TestNumbers(t *testing.T) {
	if api.MaxUnits != units || units != 1<<40 {
		t.Error(api.MaxUnits)
	}
	if api.OK != 0 || api.ErrArg != 1 || api.ErrLarge != 2 || api.ErrForm != 3 || api.ErrRange != 4 || api.ErrOver != 10 {
		t.Error("numbers of errors")
	}
}

// What other packages ask for: one amount by its name, of whatever need.
func TestAmount(t *testing.T) {
	for _, a := range append(wrong(), of(0, 0, 0), of(1, 20, 300), of(units, units-1, units-2)) {
		for name, want := range map[string]int64{"cpu": a.Cpu, "mem": a.Mem, "gpu": a.Gpu} {
			if n, ok := Amount(a, name); n != want || !ok {
				t.Error(a, name, n, ok)
			}
		}
		for _, name := range []string{"", "c", "cp", "cpux", "Cpu", "cpu=", " cpu", "disk", "cpumem", "cpu\x00"} {
			if n, ok := Amount(a, name); n != 0 || ok {
				t.Error(a, name, n, ok)
			}
		}
	}
}

// P70: from 0 to MaxUnits of each.
func TestCheck(t *testing.T) {
	for _, a := range eachOf(0, 1, 77, units-1, units) {
		if e := Check(a); e != api.OK {
			t.Error(a, e)
		}
	}
	for _, a := range wrong() {
		if e := Check(a); e != api.ErrRange {
			t.Error(a, e)
		}
	}
}

// P70 and P3: a wrong need is ErrRange in all calls, whichever of the two it is and whatever the other one, with nothing beside it.
func TestWrongNeeds(t *testing.T) {
	others := append(wrong(), of(0, 0, 0), of(1, 2, 3), of(units, units, units))
	for _, bad := range wrong() {
		for _, other := range others {
			for _, two := range [][]api.Need{{bad, other}, {other, bad}} {
				a, b := two[0], two[1]
				if ok, e := Fits(a, b); ok || e != api.ErrRange {
					t.Error("Fits", a, b, ok, e)
				}
				if c, e := Add(a, b); c != (api.Need{}) || e != api.ErrRange {
					t.Error("Add", a, b, c, e)
				}
				if c, e := Sub(a, b); c != (api.Need{}) || e != api.ErrRange {
					t.Error("Sub", a, b, c, e)
				}
				wantSum(t, two, api.Need{}, api.ErrRange)
				wantTimes(t, a, b, 0, api.ErrRange)
			}
		}
		if s, e := Text(bad); s != "" || e != api.ErrRange {
			t.Error("Text", bad, s, e)
		}
		wantSum(t, []api.Need{bad}, api.Need{}, api.ErrRange)
	}
}

// P70: of each not more; as much fits.
func TestFits(t *testing.T) {
	for _, x := range []struct {
		a, b api.Need
		want bool
	}{
		{of(0, 0, 0), of(0, 0, 0), true},
		{of(1, 2, 3), of(1, 2, 3), true},
		{of(0, 0, 0), of(1, 2, 3), true},
		{of(2, 2, 3), of(1, 2, 3), false},
		{of(1, 3, 3), of(1, 2, 3), false},
		{of(1, 2, 4), of(1, 2, 3), false},
		{of(0, 0, 1), of(units, units, 0), false},
		{of(units, 0, 0), of(units, 0, 0), true},
		{of(units, 0, 0), of(units-1, units, units), false},
	} {
		if ok, e := Fits(x.a, x.b); ok != x.want || e != api.OK {
			t.Error(x, ok, e)
		}
	}
}

// P70: up to MaxUnits of each, and not one more.
func TestAdd(t *testing.T) {
	for _, x := range []struct {
		a, b, want api.Need
		e          api.Errno
	}{
		{of(0, 0, 0), of(0, 0, 0), of(0, 0, 0), api.OK},
		{of(1, 20, 300), of(4, 50, 600), of(5, 70, 900), api.OK},
		{of(units, 0, 1), of(0, units, units-1), of(units, units, units), api.OK},
		{of(units, 0, 0), of(1, 0, 0), of(0, 0, 0), api.ErrLarge},
		{of(5, 1, 5), of(5, units, 5), of(0, 0, 0), api.ErrLarge},
		{of(5, 5, units/2), of(5, 5, units/2+1), of(0, 0, 0), api.ErrLarge},
		{of(units, units, units), of(units, units, units), of(0, 0, 0), api.ErrLarge},
	} {
		for _, two := range [][]api.Need{{x.a, x.b}, {x.b, x.a}} {
			if c, e := Add(two[0], two[1]); c != x.want || e != x.e {
				t.Error(x, c, e)
			}
		}
	}
}

// P70: down to none of each, and not one less.
func TestSub(t *testing.T) {
	for _, x := range []struct {
		a, b, want api.Need
		e          api.Errno
	}{
		{of(0, 0, 0), of(0, 0, 0), of(0, 0, 0), api.OK},
		{of(5, 70, 900), of(4, 50, 600), of(1, 20, 300), api.OK},
		{of(units, units, units), of(units, 0, 1), of(0, units, units-1), api.OK},
		{of(5, 5, 5), of(6, 0, 0), of(0, 0, 0), api.ErrOver},
		{of(5, 5, 5), of(0, 6, 0), of(0, 0, 0), api.ErrOver},
		{of(5, 5, 5), of(0, 0, 6), of(0, 0, 0), api.ErrOver},
		{of(0, 0, 0), of(units, units, units), of(0, 0, 0), api.ErrOver},
	} {
		if c, e := Sub(x.a, x.b); c != x.want || e != x.e {
			t.Error(x, c, e)
		}
	}
}

// P70: any number of needs, none included; up to MaxUnits in all.
func TestSum(t *testing.T) {
	wantSum(t, nil, of(0, 0, 0), api.OK)
	wantSum(t, []api.Need{}, of(0, 0, 0), api.OK)
	wantSum(t, []api.Need{of(7, 0, 9)}, of(7, 0, 9), api.OK)
	wantSum(t, []api.Need{of(1, 0, 0), of(0, 10, 0), of(0, 0, 100), of(2, 20, 200)}, of(3, 30, 300), api.OK)
	wantSum(t, slices.Repeat([]api.Need{of(0, 0, 0)}, 5000), of(0, 0, 0), api.OK)
	many := slices.Repeat([]api.Need{of(1, units/1024, 3)}, 1024)
	wantSum(t, many, of(1024, units, 3072), api.OK)
	wantSum(t, append(many, of(5, 0, 5)), of(1029, units, 3077), api.OK)
	for at := range many {
		wantSum(t, slices.Insert(slices.Clone(many), at, of(0, 1, 0)), api.Need{}, api.ErrLarge)
	}
	wantSum(t, slices.Repeat([]api.Need{of(units, units, units)}, 9), api.Need{}, api.ErrLarge)
}

// P70 and P3: a wrong need is told ahead of a sum that is too large, wherever it stands.
func TestSumFirstError(t *testing.T) {
	for _, large := range [][]api.Need{
		{of(units, 0, 0), of(1, 0, 0)},
		slices.Repeat([]api.Need{of(0, 0, units)}, 20),
	} {
		wantSum(t, large, api.Need{}, api.ErrLarge)
		for at := range len(large) + 1 {
			for _, bad := range wrong() {
				wantSum(t, slices.Insert(slices.Clone(large), at, bad), api.Need{}, api.ErrRange)
			}
		}
	}
	// A need below none does not make up for one that is too much.
	wantSum(t, []api.Need{of(units, 0, 0), of(-1, 0, 0)}, api.Need{}, api.ErrRange)
	wantSum(t, []api.Need{of(5, 0, 0), of(-1, 0, 0)}, api.Need{}, api.ErrRange)
}

// P70: what is short counts; what a does not need does not.
func TestTimes(t *testing.T) {
	wantTimes(t, of(1, 0, 0), of(7, 0, 0), 7, api.OK)
	wantTimes(t, of(0, 2, 0), of(0, 7, 0), 3, api.OK)
	wantTimes(t, of(0, 0, 8), of(9, 9, 7), 0, api.OK)
	wantTimes(t, of(0, 0, 7), of(0, 0, 7), 1, api.OK)
	wantTimes(t, of(1, 1, 1), of(9, 8, 7), 7, api.OK)
	wantTimes(t, of(1, 1, 1), of(9, 6, 7), 6, api.OK)
	wantTimes(t, of(1, 1, 1), of(5, 6, 7), 5, api.OK)
	wantTimes(t, of(2, 0, 3), of(9, 0, 9), 3, api.OK)
	wantTimes(t, of(1, 0, 0), of(0, 5, 5), 0, api.OK)
	wantTimes(t, of(5, 5, 5), of(0, 0, 0), 0, api.OK)
	wantTimes(t, of(1, 0, 0), of(units, 0, 0), units, api.OK)
	wantTimes(t, of(1, 1, 1), of(units, units, units), units, api.OK)
	wantTimes(t, of(1, 1, 2), of(units, units, units), units/2, api.OK)
	wantTimes(t, of(units, units, units), of(units, units, units), 1, api.OK)
	wantTimes(t, of(units, units, units), of(units, units, units-1), 0, api.OK)
}

// P70 and P3: no need at all can be taken off anything, how often can't be told; a wrong b is told ahead of that.
func TestTimesOfNone(t *testing.T) {
	for _, b := range eachOf(0, 1, units) {
		wantTimes(t, of(0, 0, 0), b, 0, api.ErrArg)
	}
	for _, b := range wrong() {
		wantTimes(t, of(0, 0, 0), b, 0, api.ErrRange)
	}
}

// P70: all pairs of needs at the edges.
func TestEachPair(t *testing.T) {
	l := eachOf(math.MinInt64, -1, 0, 1, 2, units-1, units, units+1)
	for _, a := range l {
		for _, b := range l {
			wantTold(t, a, b)
		}
		if t.Failed() {
			t.FailNow()
		}
	}
	l = eachOf(-1, 0, 1, 3, units-1, units)
	for _, a := range l {
		for _, b := range l {
			want, err := toldTimes(a, b)
			wantTimes(t, a, b, want, err)
		}
	}
}

// anyNeed has amounts of any length, none and the greatest among them.
func anyNeed(r *rand.Rand) api.Need {
	some := func() int64 {
		return []int64{0, units, r.Int63n(10), r.Int63n(1 << r.Intn(41)), r.Int63n(units + 1)}[r.Intn(5)]
	}
	return of(some(), some(), some())
}

// P70 and P71: any needs.
func TestAnyNeeds(t *testing.T) {
	r := rand.New(rand.NewSource(70))
	for range 20000 {
		a, b := anyNeed(r), anyNeed(r)
		wantTold(t, a, b)
		wantTextTold(t, a)
		want, err := toldTimes(a, b)
		wantTimes(t, a, b, want, err)
		if t.Failed() {
			t.FailNow()
		}
	}
}

// P70 by what it is for: so often a can be taken off, one behind the other, and no more; all that was taken and what is left is b again.
func TestTakenOff(t *testing.T) {
	r := rand.New(rand.NewSource(71))
	for range 3000 {
		a, b := of(r.Int63n(4), r.Int63n(4), 1+r.Int63n(3)), of(r.Int63n(99), r.Int63n(99), r.Int63n(99))
		often, e := Times(a, b)
		if e != api.OK {
			t.Fatal(a, b, e)
		}
		left, taken := b, []api.Need(nil)
		for fit, _ := Fits(a, left); fit; fit, _ = Fits(a, left) {
			left, _ = Sub(left, a)
			taken = append(taken, a)
		}
		if int64(len(taken)) != often {
			t.Fatal(a, b, often, len(taken))
		}
		wantSum(t, append(taken, left), b, api.OK)
	}
}

// P71: each that is not 0, in order; a need that can't be has no text.
func TestText(t *testing.T) {
	for want, a := range map[string]api.Need{
		"-":                 of(0, 0, 0),
		"cpu=1":             of(1, 0, 0),
		"mem=20":            of(0, 20, 0),
		"gpu=300":           of(0, 0, 300),
		"cpu=10,mem=2":      of(10, 2, 0),
		"cpu=1,gpu=9":       of(1, 0, 9),
		"mem=5,gpu=5":       of(0, 5, 5),
		"cpu=1,mem=2,gpu=3": of(1, 2, 3),
		"cpu=1099511627776,mem=1099511627776,gpu=1099511627776": of(units, units, units),
	} {
		if s, e := Text(a); s != want || e != api.OK {
			t.Error(a, s, e, want)
		}
		wantRead(t, want, a, api.OK)
	}
	for _, a := range eachOf(math.MinInt64, -1, 0, 1, 9, 10, units-1, units, units+1, math.MaxInt64) {
		wantTextTold(t, a)
	}
}

// P71: what is no text of a need, by its items.
func TestReadForm(t *testing.T) {
	for _, s := range []string{
		"", " ", "--", "-,", ",-", "- ", " -", "0", "1", "=", "=1", ",", ",,",
		"cpu", "cpu=", "cpu1", "cpu==1", "cpu=1=", "cpu=1=1", "cpu=-", "cpu:1", "cpu 1", "cpu= 1", "cpu =1",
		"cpu=0", "mem=0", "gpu=0", "cpu=00", "cpu=01", "cpu=-1", "cpu=-0", "cpu=+1", "cpu=1.0", "cpu=1e3", "cpu=0x1", "cpu=1_0", "cpu=１",
		"Cpu=1", "CPU=1", "cpux=1", "xcpu=1", "disk=1", "cp=1", "c=1",
		"cpu=1,", ",cpu=1", "cpu=1,,mem=1", "cpu=1, mem=1", "cpu=1;mem=1", "cpu=1 mem=1", "cpu=1mem=1", "cpu=1,mem", "cpu=1,mem=", "cpu=1,-", "-,cpu=1", "-cpu=1",
		"cpu=0,mem=1", "cpu=1,mem=0", "cpu=1,mem=0,gpu=1", "cpu=0,mem=0,gpu=0",
		"mem=1,cpu=1", "gpu=1,cpu=1", "gpu=1,mem=1", "cpu=1,gpu=1,mem=1", "mem=1,cpu=1,gpu=1", "gpu=1,mem=1,cpu=1",
		"cpu=1,cpu=1", "mem=1,mem=1", "gpu=1,gpu=1", "cpu=1,mem=1,mem=1", "cpu=1,mem=1,gpu=1,gpu=1", "cpu=1,mem=1,gpu=1,cpu=1", "cpu=1,mem=1,gpu=1,",
		"cpu=1\n", "\ncpu=1", "cpu=1\x00", "\x00", "\xff", "cpu=\xff",
		strings.Repeat("cpu=1,", 10000), strings.Repeat(",", 10000), strings.Repeat("-", 10000), "cpu=" + strings.Repeat("0", 10000) + "1",
	} {
		wantRead(t, s, api.Need{}, api.ErrForm)
	}
}

// P71: a number below 2^63 that is too great is ErrRange, a greater one is none.
func TestReadRange(t *testing.T) {
	for _, name := range []string{"cpu", "mem", "gpu", "cpu=1,mem", "cpu=1,gpu", "mem=1099511627776,gpu", "cpu=1,mem=1,gpu"} {
		for _, n := range []int64{units + 1, 2 * units, 1 << 62, math.MaxInt64 - 1, math.MaxInt64} {
			wantRead(t, name+"="+strconv.FormatInt(n, 10), api.Need{}, api.ErrRange)
		}
		for _, digits := range []string{"9223372036854775808", "9999999999999999999", "18446744073709551616", "18446744073709551617", "36893488147419103233", "1" + strings.Repeat("0", 5000)} {
			wantRead(t, name+"="+digits, api.Need{}, api.ErrForm)
		}
		wantReadTold(t, name+"="+strconv.Itoa(units))
	}
}

// P71 and P3: what is no text is told ahead of a number that is too great, wherever both stand.
func TestReadFirstError(t *testing.T) {
	const large = "=1099511627777"
	wantRead(t, "cpu"+large+",mem"+large+",gpu"+large, api.Need{}, api.ErrRange)
	wantRead(t, "cpu=1,mem"+large+",gpu=1", api.Need{}, api.ErrRange)
	for _, s := range []string{
		"cpu" + large + ",", "cpu" + large + ",mem=0", "cpu" + large + ",gpu", "cpu" + large + ",cpu=1", "mem" + large + ",cpu=1",
		"cpu" + large + ",mem=9223372036854775808", "cpu=0,mem" + large, "cpu=01,gpu" + large, "mem=1,cpu" + large, "disk" + large, "cpu" + large + ",mem=1,gpu=1,x=1",
	} {
		wantRead(t, s, api.Need{}, api.ErrForm)
	}
}

// P71: all texts of up to 6 pieces.
func TestReadEachText(t *testing.T) {
	pieces := []string{"cpu=", "mem=", "gpu=", "cpu", "=", ",", "-", "0", "1", "1099511627776", "9223372036854775807"}
	texts := []string{""}
	for range 6 {
		var longer []string
		for _, s := range texts {
			for _, p := range pieces {
				longer = append(longer, s+p)
			}
		}
		texts = longer
		for _, s := range texts {
			wantReadTold(t, s)
		}
		if t.Failed() {
			t.FailNow()
		}
	}
}

// P71: a text with one byte more, less, or another one is read as what it is then.
func TestReadOneByteOff(t *testing.T) {
	for _, s := range []string{"-", "cpu=1", "cpu=10,mem=2", "mem=7,gpu=1099511627776", "cpu=1,mem=20,gpu=300", "gpu=9223372036854775807"} {
		for at := range len(s) + 1 {
			for b := range 256 {
				wantReadTold(t, s[:at]+string([]byte{byte(b)})+s[at:])
				if at < len(s) {
					wantReadTold(t, s[:at]+string([]byte{byte(b)})+s[at+1:])
				}
			}
			if at < len(s) {
				wantReadTold(t, s[:at]+s[at+1:])
			}
			wantReadTold(t, s[:at])
			wantReadTold(t, s[at:])
		}
	}
}

// P71: one text only is read as a need, the one that Text tells.
func TestReadOneText(t *testing.T) {
	r := rand.New(rand.NewSource(7))
	signs := "cpumeg=,-0123456789"
	for range 200000 {
		s := []byte("cpu=12,mem=34,gpu=56")[r.Intn(14):]
		for range r.Intn(3) {
			s[r.Intn(len(s))] = signs[r.Intn(len(signs))]
		}
		a, e := Read(string(s))
		if e != api.OK {
			continue
		}
		if text, _ := Text(a); text != string(s) {
			t.Fatal(string(s), a, text)
		}
	}
}

// P2: what is handed in stays, the room behind it included, with an error or without one.
func TestOwnMemory(t *testing.T) {
	for _, x := range []struct {
		last, want api.Need
		e          api.Errno
	}{
		{of(3, 3, 3), of(6, 6, 6), api.OK},
		{of(units, 0, 0), api.Need{}, api.ErrLarge},
		{of(0, -1, 0), api.Need{}, api.ErrRange},
	} {
		room := []api.Need{of(-9, -9, -9), of(1, 1, 1), of(2, 2, 2), x.last, of(-7, -7, -7), of(8, 8, 8)}
		kept := slices.Clone(room)
		for range 2 {
			wantSum(t, room[1:4], x.want, x.e)
		}
		if !slices.Equal(room, kept) {
			t.Error(room)
		}
	}
}
