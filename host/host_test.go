package host

import (
	"fmt"
	"math"
	"math/rand"
	"reflect"
	"regexp"
	"slices"
	"strings"
	"testing"
	"unsafe"

	"shiftbell/api"
)

const units = 1099511627776

// of so much Cpu, Mem and Gpu.
func of(cpu, mem, gpu int64) api.Need { return api.Need{Cpu: cpu, Mem: mem, Gpu: gpu} }

// named is a host without labels.
func named(name string, has, used api.Need) api.Host {
	return api.Host{Name: name, Has: has, Used: used}
}

// labels of keys and values, one by one.
func labels(texts ...string) []api.Label {
	var l []api.Label
	for i := 0; i < len(texts); i += 2 {
		l = append(l, api.Label{Key: texts[i], Value: texts[i+1]})
	}
	return l
}

// manyLabels have unlike keys, and all one value.
func manyLabels(n int) []api.Label {
	var l []api.Label
	for i := range n {
		l = append(l, api.Label{Key: fmt.Sprint("k", i), Value: "v"})
	}
	return l
}

// many hosts that are right.
func many(n int) []api.Host {
	var l []api.Host
	for i := range n {
		l = append(l, named(fmt.Sprint("h", i), of(int64(i), 1, 0), of(0, 0, 0)))
	}
	return l
}

// atLeast of an amount; of 0, any host has that.
func atLeast(key string, n int64) api.Ask { return api.Ask{Kind: 3, Key: key, N: n} }

func hasLabel(key string) api.Ask { return api.Ask{Kind: 1, Key: key} }

// farm is three hosts, of each of which something is used.
func farm() []api.Host {
	return []api.Host{
		{Name: "a", Labels: labels("os", "linux", "disk", "ssd"), Has: of(8, 16, 0), Used: of(2, 4, 0)},
		{Name: "b", Labels: labels("os", "linux"), Has: of(4, 8, 2), Used: of(4, 1, 0)},
		{Name: "c", Has: of(9, 12, 1), Used: of(3, 0, 0)},
	}
}

// deep is a copy that shares nothing with the hosts but texts, which nobody changes.
func deep(l []api.Host) []api.Host {
	var m []api.Host
	for _, h := range l {
		h.Labels = append([]api.Label(nil), h.Labels...)
		m = append(m, h)
	}
	return m
}

// alike takes lists with nothing in them for alike, whatever they are.
func alike(l, m []api.Host) bool {
	return slices.EqualFunc(l, m, func(g, h api.Host) bool {
		return g.Name == h.Name && slices.Equal(g.Labels, h.Labels) && g.Has == h.Has && g.Used == h.Used
	})
}

// The document told once more.
var toldLabel = regexp.MustCompile(`\A[a-z][a-z0-9-]{0,19}\z`)

func amounts(a api.Need) [3]int64 { return [3]int64{a.Cpu, a.Mem, a.Gpu} }

func toldNeed(a api.Need) api.Errno {
	for _, n := range amounts(a) {
		if n < 0 || n > units {
			return api.ErrRange
		}
	}
	return api.OK
}

func less(a, b api.Need) api.Need { return of(a.Cpu-b.Cpu, a.Mem-b.Mem, a.Gpu-b.Gpu) }

func toldFits(a, b api.Need) bool {
	for _, n := range amounts(less(b, a)) {
		if n < 0 {
			return false
		}
	}
	return true
}

// toldHost goes by what is already known of names.
func toldHost(h api.Host, names map[string]int) api.Errno {
	if !toldLabel.MatchString(h.Name) {
		return api.ErrForm
	}
	if names[h.Name]++; names[h.Name] > 1 {
		return api.ErrThere
	}
	if len(h.Labels) > 8 {
		return api.ErrLarge
	}
	keys := map[string]int{}
	for _, label := range h.Labels {
		if !toldLabel.MatchString(label.Key) {
			return api.ErrForm
		}
		if !toldLabel.MatchString(label.Value) {
			return api.ErrForm
		}
		if keys[label.Key]++; keys[label.Key] > 1 {
			return api.ErrThere
		}
	}
	if e := toldNeed(h.Has); e != api.OK {
		return e
	}
	if e := toldNeed(h.Used); e != api.OK {
		return e
	}
	if !toldFits(h.Used, h.Has) {
		return api.ErrOver
	}
	return api.OK
}

func toldCheck(l []api.Host) api.Errno {
	if len(l) > 30 {
		return api.ErrLarge
	}
	names := map[string]int{}
	for _, h := range l {
		if e := toldHost(h, names); e != api.OK {
			return e
		}
	}
	return api.OK
}

func toldFree(h api.Host) (api.Need, api.Errno) {
	if e := toldHost(h, map[string]int{}); e != api.OK {
		return api.Need{}, e
	}
	return less(h.Has, h.Used), api.OK
}

// toldMove is Take with sign 1, Give with sign -1.
func toldMove(l []api.Host, i int, a api.Need, sign int64) ([]api.Host, api.Errno) {
	if e := toldCheck(l); e != api.OK {
		return nil, e
	}
	if i < 0 || i > len(l)-1 {
		return nil, api.ErrNone
	}
	if e := toldNeed(a); e != api.OK {
		return nil, e
	}
	m := deep(l)
	h := &m[i]
	h.Used = of(h.Used.Cpu+sign*a.Cpu, h.Used.Mem+sign*a.Mem, h.Used.Gpu+sign*a.Gpu)
	if !toldFits(h.Used, h.Has) || !toldFits(of(0, 0, 0), h.Used) {
		return nil, api.ErrOver
	}
	return m, api.OK
}

// asked is an ask with what it is told for, and of which hosts it holds.
type asked struct {
	x     api.Ask
	wrong api.Errno
	holds func(h api.Host) bool
}

// someAsks has each kind of ask, and what each error is told for.
func someAsks() []asked {
	value := func(h api.Host, key string) string {
		for _, label := range h.Labels {
			if label.Key == key {
				return label.Value
			}
		}
		return ""
	}
	always := func(api.Host) bool { return true }
	os, linux := hasLabel("os"), api.Ask{Kind: 2, Key: "os", Value: "linux"}
	return []asked{
		{atLeast("gpu", 0), api.OK, always},
		{atLeast("cpu", 2), api.OK, func(h api.Host) bool { return h.Has.Cpu >= 2 }},
		{atLeast("mem", units), api.OK, func(h api.Host) bool { return h.Has.Mem == units }},
		{os, api.OK, func(h api.Host) bool { return value(h, "os") != "" }},
		{linux, api.OK, func(h api.Host) bool { return value(h, "os") == "linux" }},
		{api.Ask{Kind: 4, X: []api.Ask{os}}, api.OK, func(h api.Host) bool { return value(h, "os") == "" }},
		{api.Ask{Kind: 5, X: []api.Ask{os, atLeast("gpu", 1)}}, api.OK,
			func(h api.Host) bool { return value(h, "os") != "" && h.Has.Gpu >= 1 }},
		{api.Ask{Kind: 6, X: []api.Ask{linux, atLeast("cpu", 3)}}, api.OK,
			func(h api.Host) bool { return value(h, "os") == "linux" || h.Has.Cpu >= 3 }},
		{api.Ask{}, api.ErrArg, always},
		{hasLabel("OS"), api.ErrForm, always},
		{atLeast("cpu", -1), api.ErrRange, always},
		{api.Ask{Kind: 1, Key: "os", X: make([]api.Ask, 60)}, api.ErrLarge, always},
	}
}

func toldFit(l []api.Host, x asked, a api.Need) ([]int, api.Errno) {
	if e := toldCheck(l); e != api.OK {
		return nil, e
	}
	if x.wrong != api.OK {
		return nil, x.wrong
	}
	if e := toldNeed(a); e != api.OK {
		return nil, e
	}
	var fit []int
	for i, h := range l {
		if x.holds(h) && toldFits(a, less(h.Has, h.Used)) {
			fit = append(fit, i)
		}
	}
	return fit, api.OK
}

// toldBest goes round by round: of those with the least Cpu left those with the least Mem, and so on.
func toldBest(l []api.Host, x asked, a api.Need) (int, api.Errno) {
	fit, e := toldFit(l, x, a)
	if e != api.OK {
		return 0, e
	}
	if len(fit) == 0 {
		return 0, api.ErrNone
	}
	for kind := range 3 {
		left := func(i int) int64 { return amounts(less(less(l[i].Has, l[i].Used), a))[kind] }
		least := int64(math.MaxInt64)
		for _, i := range fit {
			least = min(least, left(i))
		}
		fit = slices.DeleteFunc(fit, func(i int) bool { return left(i) != least })
	}
	return fit[0], api.OK
}

// holdHosts holds Check and Free against the document told once more.
func holdHosts(t *testing.T, l []api.Host) {
	t.Helper()
	if e, want := Check(l), toldCheck(l); e != want {
		t.Fatalf("Check(%v) is %v, not %v", l, e, want)
	}
	for _, h := range l[:min(len(l), 3)] {
		a, e := Free(h)
		if want, wantE := toldFree(h); a != want || e != wantE {
			t.Fatalf("Free(%v) is %v, %v, not %v, %v", h, a, e, want, wantE)
		}
	}
}

// holdMoves holds Take and Give against the document told once more.
func holdMoves(t *testing.T, l []api.Host, i int, a api.Need) {
	t.Helper()
	m, e := Take(l, i, a)
	if want, wantE := toldMove(l, i, a, 1); !alike(m, want) || e != wantE {
		t.Fatalf("Take(%v, %v, %v) is %v, %v, not %v, %v", l, i, a, m, e, want, wantE)
	}
	m, e = Give(l, i, a)
	if want, wantE := toldMove(l, i, a, -1); !alike(m, want) || e != wantE {
		t.Fatalf("Give(%v, %v, %v) is %v, %v, not %v, %v", l, i, a, m, e, want, wantE)
	}
}

// holdFits holds Fit and Best against the document told once more.
func holdFits(t *testing.T, l []api.Host, x asked, a api.Need) {
	t.Helper()
	fit, e := Fit(l, x.x, a)
	if want, wantE := toldFit(l, x, a); !slices.Equal(fit, want) || e != wantE {
		t.Fatalf("Fit(%v, %v, %v) is %v, %v, not %v, %v", l, x.x, a, fit, e, want, wantE)
	}
	best, e := Best(l, x.x, a)
	if want, wantE := toldBest(l, x, a); best != want || e != wantE {
		t.Fatalf("Best(%v, %v, %v) is %v, %v, not %v, %v", l, x.x, a, best, e, want, wantE)
	}
}

// P5: the numbers that this package leans on.
func TestNumbers(t *testing.T) {
	if api.MaxHosts != 30 || api.MaxLabels != 8 || api.MaxUnits != units {
		t.Error(api.MaxHosts, api.MaxLabels, api.MaxUnits)
	}
	numbers := []api.Errno{api.OK, api.ErrArg, api.ErrLarge, api.ErrForm, api.ErrRange, api.ErrNone, api.ErrThere, api.ErrOver}
	if !slices.Equal(numbers, []api.Errno{0, 1, 2, 3, 4, 5, 6, 10}) {
		t.Error(numbers)
	}
}

// wantCheck of all hosts, and that each other call tells it ahead of what else is wrong, with nothing beside it.
func wantCheck(t *testing.T, l []api.Host, want api.Errno) {
	t.Helper()
	if e := Check(l); e != want {
		t.Fatalf("Check(%v) is %v, not %v", l, e, want)
	}
	if want == api.OK {
		return
	}
	for _, i := range []int{-1, 0, len(l)} {
		for _, a := range []api.Need{of(0, 0, 0), of(-1, 0, 0), of(units, units, units)} {
			if m, e := Take(l, i, a); m != nil || e != want {
				t.Fatalf("Take(%v, %v, %v) is %v, %v, not %v", l, i, a, m, e, want)
			}
			if m, e := Give(l, i, a); m != nil || e != want {
				t.Fatalf("Give(%v, %v, %v) is %v, %v, not %v", l, i, a, m, e, want)
			}
			for _, x := range someAsks() {
				if fit, e := Fit(l, x.x, a); fit != nil || e != want {
					t.Fatalf("Fit(%v, %v, %v) is %v, %v, not %v", l, x.x, a, fit, e, want)
				}
				if best, e := Best(l, x.x, a); best != 0 || e != want {
					t.Fatalf("Best(%v, %v, %v) is %v, %v, not %v", l, x.x, a, best, e, want)
				}
			}
		}
	}
}

// wantOne host's error, alone and behind one that is right.
func wantOne(t *testing.T, h api.Host, want api.Errno) {
	t.Helper()
	wantCheck(t, []api.Host{h}, want)
	wantCheck(t, []api.Host{named("other", of(1, 1, 1), of(0, 0, 0)), h}, want)
	if a, e := Free(h); e != want || want != api.OK && a != (api.Need{}) {
		t.Fatalf("Free(%v) is %v, %v, not %v", h, a, e, want)
	}
}

// P90: no hosts are right, and up to 30; what stands in too many does not count.
func TestCheckMany(t *testing.T) {
	wantCheck(t, nil, api.OK)
	wantCheck(t, []api.Host{}, api.OK)
	wantCheck(t, farm(), api.OK)
	wantCheck(t, many(30), api.OK)
	wantCheck(t, many(31), api.ErrLarge)
	wantCheck(t, make([]api.Host, 30), api.ErrForm)
	wantCheck(t, make([]api.Host, 31), api.ErrLarge)
	wantCheck(t, make([]api.Host, 1000), api.ErrLarge)
}

// notLabels are near to being LABELs.
func notLabels() []string {
	return []string{"", "A", "aB", "1", "1a", "-", "-a", "a b", " a", "a ", "a_", "a.", "é", "aé", "a\x00", "a\n", "a\xff", "`", "{", "a/", "a:",
		strings.Repeat("a", 21), strings.Repeat("a", 1000)}
}

func theLabels() []string {
	return []string{"a", "z", "a0", "a9", "a-", "z-z", "host-1", strings.Repeat("z", 20), "a" + strings.Repeat("-", 19)}
}

// P90: Name, Key and Value are LABELs, all of them.
func TestCheckForm(t *testing.T) {
	for _, s := range notLabels() {
		wantOne(t, named(s, of(1, 1, 1), of(0, 0, 0)), api.ErrForm)
		wantOne(t, api.Host{Name: "a", Labels: labels(s, "v")}, api.ErrForm)
		wantOne(t, api.Host{Name: "a", Labels: labels("k", s)}, api.ErrForm)
		wantOne(t, api.Host{Name: "a", Labels: labels("a", "a", "b", "b", s, "v")}, api.ErrForm)
		wantOne(t, api.Host{Name: "a", Labels: labels("a", "a", "b", "b", "k", s)}, api.ErrForm)
	}
	for _, s := range theLabels() {
		wantOne(t, named(s, of(1, 1, 1), of(0, 0, 0)), api.OK)
		wantOne(t, api.Host{Name: "a", Labels: labels(s, "v")}, api.OK)
		wantOne(t, api.Host{Name: "a", Labels: labels("k", s)}, api.OK)
	}
}

// P90: no two of one Name, however far from each other; and no two Labels of one Key within a host.
func TestCheckThere(t *testing.T) {
	l := many(30)
	for i := range l {
		for k := range i {
			m := deep(l)
			m[i].Name = m[k].Name
			if e := Check(m); e != api.ErrThere {
				t.Error(i, k, e)
			}
		}
	}
	for i := range 8 {
		for k := range i {
			h := api.Host{Name: "a", Labels: manyLabels(8)}
			h.Labels[i].Key = h.Labels[k].Key
			wantOne(t, h, api.ErrThere)
		}
	}
	wantCheck(t, []api.Host{{Name: "a", Labels: labels("os", "x")}, {Name: "b", Labels: labels("os", "x")}}, api.OK)
	wantOne(t, api.Host{Name: "a", Labels: labels("b", "a", "a", "b", "c", "a")}, api.OK)
	wantOne(t, api.Host{Name: "a", Labels: labels("b", "v", "b", "v")}, api.ErrThere)
	wantOne(t, api.Host{Name: "a", Labels: labels("b", "v", "b", "w")}, api.ErrThere)
}

// P90: 8 labels, and not one more.
func TestCheckManyLabels(t *testing.T) {
	wantOne(t, api.Host{Name: "a", Labels: []api.Label{}}, api.OK)
	wantOne(t, api.Host{Name: "a", Labels: manyLabels(8)}, api.OK)
	wantOne(t, api.Host{Name: "a", Labels: manyLabels(9)}, api.ErrLarge)
	wantOne(t, api.Host{Name: "a", Labels: make([]api.Label, 8)}, api.ErrForm)
	wantOne(t, api.Host{Name: "a", Labels: make([]api.Label, 9)}, api.ErrLarge)
}

// withOne of the three amounts, beside two others.
func withOne(n, other int64) []api.Need {
	return []api.Need{of(n, other, other), of(other, n, other), of(other, other, n)}
}

// P90: of Has and Used 0 to 2^40 of each, and no more Used than there is of any.
func TestCheckNeeds(t *testing.T) {
	wantOne(t, named("a", of(0, 0, 0), of(0, 0, 0)), api.OK)
	wantOne(t, named("a", of(units, units, units), of(units, units, units)), api.OK)
	wantOne(t, named("a", of(5, 6, 7), of(5, 6, 7)), api.OK)
	for _, n := range []int64{-1, math.MinInt64, units + 1, math.MaxInt64} {
		for _, a := range withOne(n, 1) {
			wantOne(t, named("a", a, of(0, 0, 0)), api.ErrRange)
			wantOne(t, named("a", of(units, units, units), a), api.ErrRange)
			wantOne(t, named("a", a, a), api.ErrRange)
		}
	}
	for _, a := range withOne(3, 2) {
		wantOne(t, named("a", of(2, 2, 2), a), api.ErrOver)
		wantOne(t, named("a", of(2, 2, 2), less(a, of(1, 1, 1))), api.OK)
	}
	for _, a := range withOne(1, 2) {
		wantOne(t, named("a", a, of(2, 2, 2)), api.ErrOver)
	}
}

// P90 and P3: what is told first of one host that is wrong in several ways.
func TestCheckOrderInOne(t *testing.T) {
	small, great, bad := of(1, 1, 1), of(2, 2, 2), of(-1, 0, 0)
	nine := append(labels("K", "V", "k", "v", "k", "v"), manyLabels(6)...)
	ahead := named("a", small, small)
	for _, x := range []struct {
		h    api.Host
		want api.Errno
	}{
		{api.Host{Name: "A", Labels: nine, Has: bad, Used: bad}, api.ErrForm},
		{api.Host{Name: "a", Labels: nine, Has: bad, Used: bad}, api.ErrThere},
		{api.Host{Name: "b", Labels: nine, Has: bad, Used: bad}, api.ErrLarge},
		{api.Host{Name: "b", Labels: nine[:8], Has: bad, Used: bad}, api.ErrForm},
		{api.Host{Name: "b", Labels: nine[1:], Has: bad, Used: bad}, api.ErrThere},
		{api.Host{Name: "b", Labels: labels("k", "v", "k", "V"), Has: bad, Used: bad}, api.ErrForm},
		{api.Host{Name: "b", Labels: labels("k", "v", "k", "v", "K", "v"), Has: bad, Used: bad}, api.ErrThere},
		{api.Host{Name: "b", Labels: labels("k", "v", "K", "v", "k", "v"), Has: bad, Used: bad}, api.ErrForm},
		{api.Host{Name: "b", Labels: nine[2:], Has: small, Used: of(2, -1, 0)}, api.ErrRange},
		{api.Host{Name: "b", Has: of(0, units+1, 0), Used: great}, api.ErrRange},
		{api.Host{Name: "b", Has: small, Used: great}, api.ErrOver},
	} {
		wantCheck(t, []api.Host{ahead, x.h}, x.want)
	}
}

// P90 and P3: all of a host counts ahead of the next one.
func TestCheckOrder(t *testing.T) {
	right, form := named("a", of(1, 1, 1), of(0, 0, 0)), named("A", of(1, 1, 1), of(0, 0, 0))
	over := named("b", of(1, 1, 1), of(2, 0, 0))
	large := api.Host{Name: "c", Labels: manyLabels(9)}
	place := named("d", of(-1, 0, 0), of(0, 0, 0))
	for _, x := range []struct {
		l    []api.Host
		want api.Errno
	}{
		{[]api.Host{over, form}, api.ErrOver},
		{[]api.Host{form, over}, api.ErrForm},
		{[]api.Host{right, large, right}, api.ErrLarge},
		{[]api.Host{right, right, large}, api.ErrThere},
		{[]api.Host{place, over, right, right}, api.ErrRange},
		{[]api.Host{over, place}, api.ErrOver},
		{[]api.Host{over, over}, api.ErrOver},
	} {
		wantCheck(t, x.l, x.want)
	}
}

// P90: any two hosts put together from pieces that are right and wrong.
func TestCheckEachTwo(t *testing.T) {
	pieces := eachHost()
	for _, h := range pieces {
		holdHosts(t, []api.Host{h})
	}
	r := rand.New(rand.NewSource(90))
	for range 200000 {
		holdHosts(t, []api.Host{pieces[r.Intn(len(pieces))], pieces[r.Intn(len(pieces))]})
	}
}

// eachHost of a few names, labels and needs.
func eachHost() []api.Host {
	var l []api.Host
	for _, name := range []string{"", "a", "b", "A"} {
		for _, some := range [][]api.Label{nil, labels("k", "v"), labels("K", "v"), labels("k", "V"), labels("k", "v", "l", "v"),
			labels("k", "v", "k", "w"), manyLabels(8), manyLabels(9)} {
			for _, has := range []api.Need{of(0, 0, 0), of(2, 2, 2), of(-1, 2, 2), of(2, 2, units+1)} {
				for _, used := range []api.Need{of(0, 0, 0), of(2, 2, 2), of(1, 0, 2), of(3, 0, 0), of(0, 3, 0), of(0, 0, 3), of(0, -1, 0)} {
					l = append(l, api.Host{Name: name, Labels: some, Has: has, Used: used})
				}
			}
		}
	}
	return l
}

// P90: Has less Used, of a host alone, whatever the others are.
func TestFree(t *testing.T) {
	for _, x := range []struct{ has, used, want api.Need }{
		{of(0, 0, 0), of(0, 0, 0), of(0, 0, 0)},
		{of(4, 5, 6), of(0, 0, 0), of(4, 5, 6)},
		{of(4, 5, 6), of(1, 3, 6), of(3, 2, 0)},
		{of(4, 5, 6), of(4, 5, 6), of(0, 0, 0)},
		{of(units, units, units), of(0, 1, units), of(units, units-1, 0)},
	} {
		if a, e := Free(named("a", x.has, x.used)); a != x.want || e != api.OK {
			t.Errorf("%v less %v is %v, %v, not %v", x.has, x.used, a, e, x.want)
		}
	}
}

// P91: as much as is free can be taken, and as much as is Used given; the other hosts stay, and all else of that one.
func TestTakeAndGive(t *testing.T) {
	l := farm()
	for _, x := range []struct {
		i          int
		a          api.Need
		take, give api.Errno
		more, less api.Need
	}{
		{0, of(0, 0, 0), 0, 0, of(2, 4, 0), of(2, 4, 0)},
		{0, of(1, 2, 0), 0, 0, of(3, 6, 0), of(1, 2, 0)},
		{0, of(2, 4, 0), 0, 0, of(4, 8, 0), of(0, 0, 0)},
		{0, of(6, 12, 0), 0, api.ErrOver, of(8, 16, 0), of(0, 0, 0)},
		{0, of(7, 0, 0), api.ErrOver, api.ErrOver, of(0, 0, 0), of(0, 0, 0)},
		{0, of(0, 13, 0), api.ErrOver, api.ErrOver, of(0, 0, 0), of(0, 0, 0)},
		{0, of(0, 0, 1), api.ErrOver, api.ErrOver, of(0, 0, 0), of(0, 0, 0)},
		{1, of(1, 0, 0), api.ErrOver, 0, of(0, 0, 0), of(3, 1, 0)},
		{1, of(0, 1, 0), 0, 0, of(4, 2, 0), of(4, 0, 0)},
		{1, of(0, 2, 2), 0, api.ErrOver, of(4, 3, 2), of(0, 0, 0)},
		{2, of(3, 0, 0), 0, 0, of(6, 0, 0), of(0, 0, 0)},
		{2, of(6, 12, 1), 0, api.ErrOver, of(9, 12, 1), of(0, 0, 0)},
		{2, of(4, 0, 0), 0, api.ErrOver, of(7, 0, 0), of(0, 0, 0)},
		{2, of(units, 0, 0), api.ErrOver, api.ErrOver, of(0, 0, 0), of(0, 0, 0)},
	} {
		m, e := Take(l, x.i, x.a)
		wantMoved(t, m, e, x.i, x.more, x.take)
		m, e = Give(l, x.i, x.a)
		wantMoved(t, m, e, x.i, x.less, x.give)
		holdMoves(t, l, x.i, x.a)
	}
}

// wantMoved is the farm with another Used of one host, or an error and no hosts.
func wantMoved(t *testing.T, m []api.Host, e api.Errno, i int, used api.Need, want api.Errno) {
	t.Helper()
	if want != api.OK {
		if m != nil || e != want {
			t.Error(i, m, e, want)
		}
		return
	}
	l := farm()
	l[i].Used = used
	if !alike(m, l) || e != api.OK {
		t.Error(m, e, l)
	}
}

// P91: what can't be, in order: no such host, no need, too much.
func TestTakeAndGiveWrong(t *testing.T) {
	big, bad := of(units, units, units), of(-1, 0, 0)
	for _, x := range []struct {
		l    []api.Host
		i    int
		a    api.Need
		want api.Errno
	}{
		{nil, 0, of(0, 0, 0), api.ErrNone},
		{farm(), -1, of(0, 0, 0), api.ErrNone},
		{farm(), 3, of(0, 0, 0), api.ErrNone},
		{farm(), 3, bad, api.ErrNone},
		{farm(), math.MaxInt, big, api.ErrNone},
		{farm(), math.MinInt, bad, api.ErrNone},
		{many(30), 30, of(0, 0, 0), api.ErrNone},
		{farm(), 0, bad, api.ErrRange},
		{farm(), 0, of(units+1, 0, 0), api.ErrRange},
		{farm(), 2, of(math.MaxInt64, 0, 0), api.ErrRange},
		{farm(), 2, of(math.MinInt64, 0, 0), api.ErrRange},
		{farm(), 0, of(units, -1, 0), api.ErrRange},
		{farm(), 0, big, api.ErrOver},
	} {
		if m, e := Take(x.l, x.i, x.a); m != nil || e != x.want {
			t.Error("Take", x, m, e)
		}
		if m, e := Give(x.l, x.i, x.a); m != nil || e != x.want {
			t.Error("Give", x, m, e)
		}
	}
}

// P91: all that there can be is taken, and given back; the last host of 30, too.
func TestTakeAll(t *testing.T) {
	l := many(30)
	all := of(units, units, units)
	l[29].Has = all
	m, e := Take(l, 29, all)
	if e != api.OK || m[29].Used != all {
		t.Fatal(m, e)
	}
	if m, e := Take(m, 29, of(0, 0, 1)); m != nil || e != api.ErrOver {
		t.Error(m, e)
	}
	if m, e := Give(m, 29, all); e != api.OK || !alike(m, l) {
		t.Error(m, e)
	}
}

// P91: of which x holds, and where a fits what is free, not what there is; rising.
func TestFit(t *testing.T) {
	any, not := atLeast("cpu", 0), func(x api.Ask) api.Ask { return api.Ask{Kind: 4, X: []api.Ask{x}} }
	for _, x := range []struct {
		x    api.Ask
		a    api.Need
		fit  []int
		best int
	}{
		{any, of(0, 0, 0), []int{0, 1, 2}, 1},
		{any, of(1, 0, 0), []int{0, 2}, 0},
		{any, of(6, 12, 0), []int{0, 2}, 0},
		{any, of(6, 0, 1), []int{2}, 2},
		{any, of(7, 0, 0), nil, -1},
		{any, of(0, 7, 0), []int{0, 1, 2}, 1},
		{any, of(0, 8, 0), []int{0, 2}, 0},
		{any, of(0, 0, 2), []int{1}, 1},
		{any, of(units, units, units), nil, -1},
		{hasLabel("os"), of(0, 0, 0), []int{0, 1}, 1},
		{hasLabel("disk"), of(0, 0, 0), []int{0}, 0},
		{not(hasLabel("disk")), of(0, 0, 0), []int{1, 2}, 1},
		{not(hasLabel("disk")), of(1, 0, 0), []int{2}, 2},
		{hasLabel("os"), of(0, 0, 1), []int{1}, 1},
		{hasLabel("gpu"), of(0, 0, 0), nil, -1},
		// What an ask is about is what there is, used or not.
		{atLeast("cpu", 8), of(0, 0, 0), []int{0, 2}, 0},
		{atLeast("cpu", 9), of(6, 0, 0), []int{2}, 2},
		{atLeast("cpu", 4), of(0, 0, 0), []int{0, 1, 2}, 1},
	} {
		if fit, e := Fit(farm(), x.x, x.a); !slices.Equal(fit, x.fit) || e != api.OK {
			t.Error(x, fit, e)
		}
		best, e := Best(farm(), x.x, x.a)
		if x.best >= 0 && (best != x.best || e != api.OK) || x.best < 0 && (best != 0 || e != api.ErrNone) {
			t.Error(x, best, e)
		}
	}
}

// P91: where no hosts are none fits.
func TestFitOfNone(t *testing.T) {
	if fit, e := Fit(nil, atLeast("cpu", 0), of(0, 0, 0)); len(fit) != 0 || e != api.OK {
		t.Error(fit, e)
	}
	if best, e := Best(nil, atLeast("cpu", 0), of(0, 0, 0)); best != 0 || e != api.ErrNone {
		t.Error(best, e)
	}
}

// P91: a wrong ask is told ahead of a wrong need, and that of hosts of which none fits.
func TestFitWrong(t *testing.T) {
	far, bad := atLeast("cpu", units), of(-1, 0, 0)
	for _, l := range [][]api.Host{nil, farm(), many(30)} {
		for _, x := range append(someAsks(), asked{far, api.OK, nil}) {
			want := x.wrong
			if want == api.OK {
				want = api.ErrRange
			}
			if fit, e := Fit(l, x.x, bad); fit != nil || e != want {
				t.Error(x.x, fit, e, want)
			}
			if best, e := Best(l, x.x, bad); best != 0 || e != want {
				t.Error(x.x, best, e, want)
			}
		}
	}
}

// P1 and P91: an ask that has no end is too large.
func TestFitEndless(t *testing.T) {
	x := api.Ask{Kind: 4, X: make([]api.Ask, 1)}
	x.X[0] = x
	if fit, e := Fit(farm(), x, of(0, 0, 0)); fit != nil || e != api.ErrLarge {
		t.Error(fit, e)
	}
	if best, e := Best(farm(), x, of(0, 0, 0)); best != 0 || e != api.ErrLarge {
		t.Error(best, e)
	}
}

// P91: least Cpu, then least Mem, then least Gpu, then the first; what is left counts, not what there is.
func TestBest(t *testing.T) {
	for _, x := range []struct {
		free []api.Need
		want int
	}{
		{[]api.Need{of(3, 1, 1), of(2, 9, 9), of(3, 0, 0)}, 1},
		{[]api.Need{of(2, 3, 1), of(2, 2, 9), of(2, 3, 0)}, 1},
		{[]api.Need{of(2, 2, 3), of(2, 2, 2), of(2, 2, 3)}, 1},
		{[]api.Need{of(2, 2, 3), of(2, 2, 2), of(2, 2, 2)}, 1},
		{[]api.Need{of(2, 2, 2), of(2, 2, 2), of(2, 2, 2)}, 0},
		{[]api.Need{of(1, 0, 0), of(2, 2, 2), of(2, 2, 2)}, 1},
		{[]api.Need{of(9, 9, 9), of(9, 9, 8), of(9, 8, 9)}, 2},
		{[]api.Need{of(units, 2, 2), of(units, units, 2), of(units-1, units, units)}, 2},
	} {
		for _, used := range []api.Need{of(0, 0, 0), of(1, 1, 1), of(7, 0, 3)} {
			var l []api.Host
			for i, free := range x.free {
				has := of(free.Cpu+int64(len(x.free)-i)*used.Cpu, free.Mem+int64(i)*used.Mem, free.Gpu+used.Gpu)
				has = of(min(has.Cpu, units), min(has.Mem, units), min(has.Gpu, units))
				l = append(l, named(string(rune('a'+i)), has, less(has, free)))
			}
			if best, e := Best(l, atLeast("cpu", 0), of(2, 2, 2)); best != x.want || e != api.OK {
				t.Error(x, used, best, e)
			}
		}
	}
}

// randomHosts are right, and small, so that many are alike; now and then one amount is the greatest.
func randomHosts(r *rand.Rand) []api.Host {
	amount := func() int64 {
		if r.Intn(12) == 0 {
			return units
		}
		return int64(r.Intn(4))
	}
	part := func(n int64) int64 { return r.Int63n(min(n, 4) + 1) }
	l := many(r.Intn(9))
	for i := range l {
		h := &l[i]
		h.Has = of(amount(), amount(), amount())
		h.Used = of(part(h.Has.Cpu), part(h.Has.Mem), part(h.Has.Gpu))
		for _, key := range []string{"os", "disk", "rack"} {
			if r.Intn(2) == 0 {
				h.Labels = append(h.Labels, api.Label{Key: key, Value: []string{"linux", "bsd"}[r.Intn(2)]})
			}
		}
	}
	return l
}

// spoil one thing of one host.
func spoil(r *rand.Rand, l []api.Host) {
	if len(l) == 0 {
		return
	}
	h := &l[r.Intn(len(l))]
	switch r.Intn(6) {
	case 0:
		h.Name = notLabels()[r.Intn(len(notLabels()))]
	case 1:
		h.Name = l[0].Name
	case 2:
		h.Labels = append(h.Labels, api.Label{Key: "os", Value: "x"})
	case 3:
		h.Labels = manyLabels(8 + r.Intn(2))
	case 4:
		h.Has.Mem -= 2
	case 5:
		h.Used.Gpu += int64(r.Intn(3)) - 1
	}
}

// P90 and P91: any hosts, some of them spoiled.
func TestAnyHosts(t *testing.T) {
	r := rand.New(rand.NewSource(91))
	asks := someAsks()
	for range 30000 {
		l := randomHosts(r)
		for range r.Intn(3) * r.Intn(2) {
			spoil(r, l)
		}
		before := deep(l)
		a := of(int64(r.Intn(4)), int64(r.Intn(4)), int64(r.Intn(3)))
		if r.Intn(20) == 0 {
			a.Gpu = []int64{-1, units, units + 1}[r.Intn(3)]
		}
		holdHosts(t, l)
		holdMoves(t, l, r.Intn(len(l)+3)-1, a)
		holdFits(t, l, asks[r.Intn(len(asks))], a)
		if !alike(l, before) {
			t.Fatal("changed", l, before)
		}
	}
}

// P91 by what it is for: what is taken again and again is never more than there is, and all of it can be given back in any order.
func TestNeverTooMuch(t *testing.T) {
	r := rand.New(rand.NewSource(9))
	type taken struct {
		host int
		a    api.Need
	}
	for range 200 {
		first := randomHosts(r)
		l, all := first, []taken(nil)
		for range 40 {
			a := of(int64(r.Intn(3)), int64(r.Intn(3)), int64(r.Intn(2)))
			best, e := Best(l, atLeast("cpu", 0), a)
			if e == api.ErrNone {
				continue
			}
			l, e = Take(l, best, a)
			if e != api.OK || Check(l) != api.OK {
				t.Fatal(l, e)
			}
			all = append(all, taken{best, a})
		}
		for _, k := range r.Perm(len(all)) {
			m, e := Give(l, all[k].host, all[k].a)
			if e != api.OK {
				t.Fatal(l, all[k], e)
			}
			l = m
		}
		if !alike(l, first) {
			t.Fatal(l, first)
		}
	}
}

// P2: what is handed in stays, the room behind its lists included.
func TestHandedInStays(t *testing.T) {
	room := farm()
	for i := range room {
		room[i].Labels = append(room[i].Labels, labels("room", "behind")...)
	}
	room = append(room, named("room", of(9, 9, 9), of(0, 0, 0)))
	before := deep(room)
	l := room[:3]
	for i := range l {
		l[i].Labels = l[i].Labels[:len(l[i].Labels)-1]
	}
	x, asksX := api.Ask{Kind: 4, X: []api.Ask{hasLabel("os"), hasLabel("room")}[:1]}, []api.Ask{hasLabel("os"), hasLabel("room")}
	for _, a := range []api.Need{of(0, 0, 0), of(1, 1, 0), of(-1, 0, 0), of(units, 0, 0)} {
		Check(l)
		Free(l[0])
		Take(l, 0, a)
		Give(l, 0, a)
		Fit(l, x, a)
		Best(l, x, a)
	}
	for i := range l {
		l[i].Labels = l[i].Labels[:len(l[i].Labels)+1]
	}
	if !alike(room, before) || !reflect.DeepEqual(x.X[:2], asksX) {
		t.Error(room, x)
	}
}

// P2: the hosts that are answered share no list with those that were handed in, with what is answered again, or with each other.
func TestOwnMemory(t *testing.T) {
	for _, call := range []func(l []api.Host, i int, a api.Need) ([]api.Host, api.Errno){Take, Give} {
		l := farm()
		// Two hosts may have been handed in with one list.
		l[2].Labels = l[0].Labels
		before := deep(l)
		m, _ := call(l, 0, of(0, 0, 0))
		again, _ := call(l, 0, of(0, 0, 0))
		for i := range m {
			m[i].Name = "x"
			m[i].Labels = append(m[i].Labels, labels("x", "x")...)
			m[i].Labels[0] = api.Label{Key: fmt.Sprint("y", i)}
		}
		if !alike(l, before) || !alike(again, before) || m[0].Labels[0].Key != "y0" || m[2].Labels[0].Key != "y2" {
			t.Error(l, again, m)
		}
		clear(l[0].Labels)
		clear(l)
		if !alike(again, before) {
			t.Error(again)
		}
	}
	fit, _ := Fit(farm(), atLeast("cpu", 0), of(0, 0, 0))
	fit[0] = 7
	if fit, _ = Fit(farm(), atLeast("cpu", 0), of(0, 0, 0)); fit[0] != 0 {
		t.Error(fit)
	}
}

// P2: the texts of what is answered lie elsewhere than those that were handed in: what comes to these bytes later does not show.
func TestTextsOwnMemory(t *testing.T) {
	for _, call := range []func(l []api.Host, i int, a api.Need) ([]api.Host, api.Errno){Take, Give} {
		bytes := []byte("nameosunix")
		text := func(from, to int) string { return unsafe.String(&bytes[from], to-from) }
		l := []api.Host{{Name: "a"}, {Name: text(0, 4), Labels: labels(text(4, 6), text(6, 10))}}
		m, _ := call(l, 0, of(0, 0, 0))
		clear(bytes)
		if !alike(m, []api.Host{{Name: "a"}, {Name: "name", Labels: labels("os", "unix")}}) {
			t.Error(m)
		}
	}
}
