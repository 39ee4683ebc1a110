package ask

import (
	"math"
	"math/big"
	"math/rand"
	"reflect"
	"regexp"
	"slices"
	"strconv"
	"strings"
	"testing"
	"unsafe"

	"shiftbell/api"
)

const units = 1099511627776

func has(key string) api.Ask { return api.Ask{Kind: 1, Key: key} }

func is(key, value string) api.Ask { return api.Ask{Kind: 2, Key: key, Value: value} }

func more(key string, n int64) api.Ask { return api.Ask{Kind: 3, Key: key, N: n} }

func not(x api.Ask) api.Ask { return api.Ask{Kind: 4, X: []api.Ask{x}} }

func and(x, y api.Ask) api.Ask { return api.Ask{Kind: 5, X: []api.Ask{x, y}} }

func or(x, y api.Ask) api.Ask { return api.Ask{Kind: 6, X: []api.Ask{x, y}} }

// chain of asks, two by two from the front on, by and or by or.
func chain(two func(x, y api.Ask) api.Ask, l ...api.Ask) api.Ask {
	x := l[0]
	for _, y := range l[1:] {
		x = two(x, y)
	}
	return x
}

// nots is so many of ANot, one in another, of an ask.
func nots(n int, x api.Ask) api.Ask {
	for range n {
		x = not(x)
	}
	return x
}

// endless is an ask whose list holds that ask.
func endless(kind, lists int) api.Ask {
	x := api.Ask{Kind: kind, X: make([]api.Ask, lists)}
	for i := range x.X {
		x.X[i] = x
	}
	return x
}

// doubled has 2^n atoms, but only n lists.
func doubled(n int) api.Ask {
	x := has("a")
	for range n {
		x = and(x, x)
	}
	return x
}

// copied is an ask of new lists, without anything in common with the other one.
func copied(x api.Ask) api.Ask {
	y := x
	y.X = nil
	for _, z := range x.X {
		y.X = append(y.X, copied(z))
	}
	return y
}

func isZero(x api.Ask) bool { return reflect.DeepEqual(x, api.Ask{}) }

// The document told once more.
var toldLabel = regexp.MustCompile(`\A[a-z][a-z0-9-]{0,19}\z`)

// toldCount counts up to 61, by a list of those that are still to be looked at.
func toldCount(x api.Ask) int {
	left := []api.Ask{x}
	for i := 0; i < len(left) && i <= 60; i++ {
		left = append(left, left[i].X[:min(len(left[i].X), 61)]...)
	}
	return min(len(left), 61)
}

func toldCheck(x api.Ask) api.Errno {
	if toldCount(x) > 60 {
		return api.ErrLarge
	}
	return toldCheckEach(x)
}

func toldCheckEach(x api.Ask) api.Errno {
	if e := toldCheckOne(x); e != api.OK {
		return e
	}
	for _, y := range x.X {
		if e := toldCheckEach(y); e != api.OK {
			return e
		}
	}
	return api.OK
}

func toldCheckOne(x api.Ask) api.Errno {
	label, amount := toldLabel.MatchString, slices.Contains([]string{"cpu", "mem", "gpu"}, x.Key)
	for _, kind := range []struct {
		kind, lists    int
		key, value, n  bool
		formed, inside bool
	}{
		{1, 0, true, false, false, label(x.Key), true},
		{2, 0, true, true, false, label(x.Key) && label(x.Value), true},
		{3, 0, true, false, true, amount, x.N >= 0 && x.N <= units},
		{4, 1, false, false, false, true, true},
		{5, 2, false, false, false, true, true},
		{6, 2, false, false, false, true, true},
	} {
		if kind.kind != x.Kind {
			continue
		}
		switch {
		case len(x.X) != kind.lists, !kind.key && x.Key != "", !kind.value && x.Value != "", !kind.n && x.N != 0:
			return api.ErrArg
		case !kind.formed:
			return api.ErrForm
		case !kind.inside:
			return api.ErrRange
		}
		return api.OK
	}
	return api.ErrArg
}

func toldText(x api.Ask) string {
	switch x.Kind {
	case 1:
		return "?" + x.Key
	case 2:
		return x.Key + "=" + x.Value
	case 3:
		return x.Key + ">=" + big.NewInt(x.N).String()
	case 4:
		return "!" + toldText(x.X[0])
	}
	return "(" + toldText(x.X[0]) + []string{"&", "|"}[x.Kind-5] + toldText(x.X[1]) + ")"
}

var (
	atomText  = regexp.MustCompile(`\?[a-z][a-z0-9-]{0,19}|[a-z][a-z0-9-]{0,19}=[a-z][a-z0-9-]{0,19}|(?:cpu|mem|gpu)>=(?:0|[1-9][0-9]*)`)
	otherText = regexp.MustCompile(`!@|\(@[&|]@\)`)
)

// toldIsText makes each ask in a text one sign, from the inside on, until one sign is left.
func toldIsText(s string) bool {
	if strings.Contains(s, "@") {
		return false
	}
	count := 0
	s = atomText.ReplaceAllStringFunc(s, func(atom string) string {
		count++
		_, digits, _ := strings.Cut(atom, ">=")
		n, ok := new(big.Int).SetString(digits, 10)
		if ok && n.Cmp(big.NewInt(units)) > 0 {
			return "too much"
		}
		return "@"
	})
	for last := ""; last != s; {
		last = s
		s = otherText.ReplaceAllStringFunc(s, func(string) string { count++; return "@" })
	}
	return s == "@" && count <= 60
}

func toldRead(s string) (api.Ask, api.Errno) {
	if len(s) > 2000 {
		return api.Ask{}, api.ErrLarge
	}
	if !toldIsText(s) {
		return api.Ask{}, api.ErrForm
	}
	return toldParse(s), api.OK
}

// toldParse wants the text of an ask.
func toldParse(s string) api.Ask {
	switch s[0] {
	case '?':
		return has(s[1:])
	case '!':
		return not(toldParse(s[1:]))
	case '(':
		open, at := 0, 1
		for open > 0 || s[at] != '&' && s[at] != '|' {
			open += strings.Count(s[at:at+1], "(") - strings.Count(s[at:at+1], ")")
			at++
		}
		x, y := toldParse(s[1:at]), toldParse(s[at+1:len(s)-1])
		if s[at] == '&' {
			return and(x, y)
		}
		return or(x, y)
	}
	if key, digits, ok := strings.Cut(s, ">="); ok {
		n, _ := strconv.ParseInt(digits, 10, 64)
		return more(key, n)
	}
	key, value, _ := strings.Cut(s, "=")
	return is(key, value)
}

func toldHolds(x api.Ask, h api.Host) bool {
	some := false
	for _, l := range h.Labels {
		some = some || x.Kind == 1 && l.Key == x.Key || x.Kind == 2 && l.Key == x.Key && l.Value == x.Value
	}
	switch x.Kind {
	case 3:
		return map[string]int64{"cpu": h.Has.Cpu, "mem": h.Has.Mem, "gpu": h.Has.Gpu}[x.Key] >= x.N
	case 4:
		return !toldHolds(x.X[0], h)
	case 5, 6:
		a, b := toldHolds(x.X[0], h), toldHolds(x.X[1], h)
		return x.Kind == 5 && a && b || x.Kind == 6 && (a || b)
	}
	return some
}

// toldStep is the ask with the outermost ANot made over that is not as Norm asks for, if there is one.
func toldStep(x api.Ask) (api.Ask, bool) {
	if x.Kind == 4 && x.X[0].Kind >= 4 {
		within := x.X[0].X
		switch x.X[0].Kind {
		case 4:
			return within[0], true
		case 5:
			return or(not(within[0]), not(within[1])), true
		}
		return and(not(within[0]), not(within[1])), true
	}
	for i, y := range x.X {
		if z, ok := toldStep(y); ok {
			x.X[i] = z
			return x, true
		}
	}
	return x, false
}

func toldNorm(x api.Ask) (api.Ask, api.Errno) {
	y := copied(x)
	for again := true; again; {
		y, again = toldStep(y)
	}
	if toldCount(y) > 60 {
		return api.Ask{}, api.ErrLarge
	}
	return y, api.OK
}

// toldAtoms are the texts of those asks in one that have none in them.
func toldAtoms(x api.Ask, l []string) []string {
	for _, y := range x.X {
		l = toldAtoms(y, l)
	}
	if s := toldText(x); len(x.X) == 0 && !slices.Contains(l, s) {
		l = append(l, s)
	}
	return l
}

func toldWhether(x api.Ask, hold map[string]bool) bool {
	switch x.Kind {
	case 4:
		return !toldWhether(x.X[0], hold)
	case 5:
		return !(!toldWhether(x.X[0], hold) || !toldWhether(x.X[1], hold))
	case 6:
		return !(!toldWhether(x.X[0], hold) && !toldWhether(x.X[1], hold))
	}
	return hold[toldText(x)]
}

func toldAlike(x, y api.Ask) (bool, api.Errno) {
	atoms := toldAtoms(y, toldAtoms(x, nil))
	if len(atoms) > 12 {
		return false, api.ErrLarge
	}
	return toldAlikeFor(x, y, atoms, map[string]bool{}), api.OK
}

// toldAlikeFor tries both for the first atom that is not chosen yet.
func toldAlikeFor(x, y api.Ask, atoms []string, hold map[string]bool) bool {
	if len(atoms) == 0 {
		return toldWhether(x, hold) == toldWhether(y, hold)
	}
	alike := true
	for _, it := range []bool{true, false} {
		hold[atoms[0]] = it
		alike = alike && toldAlikeFor(x, y, atoms[1:], hold)
	}
	return alike
}

// anyAtom is one of not many, so that some come again.
func anyAtom(r *rand.Rand) api.Ask {
	labels := []string{"a", "b", "cpu", "os", "x-1"}
	key, value := labels[r.Intn(len(labels))], labels[r.Intn(len(labels))]
	amount := []string{"cpu", "mem", "gpu"}[r.Intn(3)]
	return []api.Ask{has(key), is(key, value), more(amount, r.Int63n(4)), more(amount, units-r.Int63n(2))}[r.Intn(4)]
}

// anyAsk has just so many asks in it, itself included.
func anyAsk(r *rand.Rand, n int, atom func(*rand.Rand) api.Ask) api.Ask {
	if n == 1 {
		return atom(r)
	}
	if n == 2 || r.Intn(6) == 0 {
		return not(anyAsk(r, n-1, atom))
	}
	first := 1 + r.Intn(n-2)
	x, y := anyAsk(r, first, atom), anyAsk(r, n-1-first, atom)
	if r.Intn(2) == 0 {
		return and(x, y)
	}
	return or(x, y)
}

// anyPlace of an ask that may be changed there, where it stands.
func anyPlace(r *rand.Rand, x *api.Ask) *api.Ask {
	for len(x.X) > 0 && r.Intn(4) > 0 {
		x = &x.X[r.Intn(len(x.X))]
	}
	return x
}

// spoil something of an ask; it may still be right behind that.
func spoil(r *rand.Rand, x *api.Ask) {
	x = anyPlace(r, x)
	switch r.Intn(5) {
	case 0:
		x.Kind = r.Intn(9) - 1
	case 1:
		x.Key = []string{"", "a", "cpu", "A", "a_"}[r.Intn(5)]
	case 2:
		x.Value = []string{"", "a", "A", "1"}[r.Intn(4)]
	case 3:
		x.N = []int64{0, 1, -1, units, units + 1, math.MinInt64}[r.Intn(6)]
	case 4:
		x.X = []api.Ask{has("a"), has("b"), has("c")}[:r.Intn(4)]
	}
}

// anyHost has few labels, a Key twice among them at times, and amounts at the edges of anyAtom's.
func anyHost(r *rand.Rand) api.Host {
	labels := []string{"a", "b", "cpu", "os", "x-1"}
	amount := func() int64 { return []int64{r.Int63n(5), units - r.Int63n(3), -1}[r.Intn(3)] }
	h := api.Host{Has: api.Need{Cpu: amount(), Mem: amount(), Gpu: amount()}}
	for range r.Intn(5) {
		h.Labels = append(h.Labels, api.Label{Key: labels[r.Intn(5)], Value: labels[r.Intn(5)]})
	}
	return h
}

// wantError in each call that an ask comes in to, with nothing beside it.
func wantError(t *testing.T, x api.Ask, want api.Errno) {
	t.Helper()
	if e := Check(x); e != want {
		t.Error("Check", e, want)
	}
	if s, e := Text(x); s != "" || e != want {
		t.Error("Text", s, e, want)
	}
	if ok, e := Holds(x, api.Host{Labels: []api.Label{{Key: "a", Value: "b"}}}); ok || e != want {
		t.Error("Holds", ok, e, want)
	}
	if y, e := Norm(x); !isZero(y) || e != want {
		t.Error("Norm", y, e, want)
	}
	for _, y := range []api.Ask{has("a"), x} {
		if ok, e := Alike(x, y); ok || e != want {
			t.Error("Alike", ok, e, want)
		}
	}
	if ok, e := Alike(has("a"), x); ok || e != want {
		t.Error("Alike", ok, e, want)
	}
}

// wantChecked holds against the document what all calls say of an ask that may be wrong.
func wantChecked(t *testing.T, x api.Ask) {
	t.Helper()
	want := toldCheck(x)
	if want != api.OK {
		wantError(t, x, want)
	} else if e := Check(x); e != api.OK {
		t.Error("Check", x, e)
	}
}

func wantText(t *testing.T, x api.Ask, want string) {
	t.Helper()
	if s, e := Text(x); s != want || e != api.OK {
		t.Errorf("Text %q %v, not %q", s, e, want)
	}
}

func wantRead(t *testing.T, s string, want api.Ask, err api.Errno) {
	t.Helper()
	x, e := Read(s)
	if e != err || err != api.OK && !isZero(x) {
		t.Errorf("%q: %v %v, not %v", s, x, e, err)
		return
	}
	if !reflect.DeepEqual(copied(x), want) {
		t.Errorf("%q: %v, not %v", s, x, want)
	}
}

func wantReadTold(t *testing.T, s string) {
	t.Helper()
	want, err := toldRead(s)
	wantRead(t, s, want, err)
}

func wantHolds(t *testing.T, x api.Ask, h api.Host, want bool) {
	t.Helper()
	if ok, e := Holds(x, h); ok != want || e != api.OK {
		t.Error(toldText(x), h, ok, e)
	}
}

func wantNorm(t *testing.T, x, want api.Ask, err api.Errno) {
	t.Helper()
	y, e := Norm(x)
	if e != err || !reflect.DeepEqual(copied(y), want) {
		t.Error(toldText(x), y, e, want, err)
	}
}

// wantAlike both ways round.
func wantAlike(t *testing.T, x, y api.Ask, want bool, err api.Errno) {
	t.Helper()
	for range 2 {
		if ok, e := Alike(x, y); ok != want || e != err {
			t.Error(toldText(x), toldText(y), ok, e, want, err)
		}
		x, y = y, x
	}
}

// P5: the numbers that this package leans on.
func TestNumbers(t *testing.T) {
	if api.AHas != 1 || api.AIs != 2 || api.AMore != 3 || api.ANot != 4 || api.AAnd != 5 || api.AOr != 6 {
		t.Error("kinds of asks")
	}
	if api.MaxAsks != 60 || api.MaxAtoms != 12 || api.MaxText != 2000 || api.MaxUnits != units {
		t.Error("limits")
	}
	if api.OK != 0 || api.ErrArg != 1 || api.ErrLarge != 2 || api.ErrForm != 3 || api.ErrRange != 4 {
		t.Error("numbers of errors")
	}
}

// P80: a LABEL is 1 to 20 bytes, and what each of them may be.
func TestLabel(t *testing.T) {
	labels := []string{"", "a", "z", "a-", "a--", "a0", "z9", "cpu", "-", "-a", "0", "9a", "A", "aA", "a b", " a", "a ", "a_", "a.b", "a=", "ä", "aä", "a\x00", "a\xff", "ａ"}
	for _, n := range []int{2, 19, 20, 21, 22, 5000} {
		labels = append(labels, strings.Repeat("a", n), "z"+strings.Repeat("-", n-1), "z"+strings.Repeat("9", n-1), strings.Repeat("a", n-1)+"_", strings.Repeat("a", n-1)+"A")
	}
	for b := range 256 {
		one := string([]byte{byte(b)})
		labels = append(labels, one, "a"+one, one+"a", "a"+one+"a")
	}
	right := 0
	for _, s := range labels {
		want := api.ErrForm
		if toldLabel.MatchString(s) {
			want = api.OK
			right++
		}
		if is := IsLabel(s); is != (want == api.OK) {
			t.Errorf("%q %v", s, is)
		}
		for _, x := range []api.Ask{has(s), is(s, "a"), is("a", s), is(s, s), not(has(s)), and(has("a"), is("b", s))} {
			if e := Check(x); e != want {
				t.Errorf("%q %v", s, e)
			}
			wantChecked(t, x)
		}
	}
	if right < 26+37+26+37+10 {
		t.Error(right)
	}
}

// P80: what each kind has and has not, in all ways to put it together.
func TestCheckEachField(t *testing.T) {
	lists := [][]api.Ask{nil, {}, {has("a")}, {has("a"), is("a", "b")}, {has("a"), has("b"), has("c")}, {{}}, {has("A"), {}}, {{}, has("A")}, {more("cpu", -1), has("A")}}
	found := map[api.Errno]int{}
	for _, kind := range []int{math.MinInt, -1, 0, 1, 2, 3, 4, 5, 6, 7, 8, math.MaxInt} {
		for _, key := range []string{"", "a", "cpu", "mem", "gpu", "disk", "A"} {
			for _, value := range []string{"", "b", "B"} {
				for _, n := range []int64{math.MinInt64, -1, 0, 1, units, units + 1, math.MaxInt64} {
					for _, l := range lists {
						x := api.Ask{Kind: kind, Key: key, Value: value, N: n, X: l}
						found[toldCheck(x)]++
						wantChecked(t, x)
						wantChecked(t, or(has("a"), x))
					}
				}
			}
		}
	}
	if t.Failed() || len(found) != 4 {
		t.Error(found)
	}
}

// P80: what one ask is told for, by hand.
func TestCheckOne(t *testing.T) {
	a := has("a")
	for _, x := range []api.Ask{a, is("a", "b"), more("cpu", 0), more("mem", 1), more("gpu", units), not(a), and(a, a), or(a, a), {Kind: 1, Key: "a", X: []api.Ask{}}} {
		if e := Check(x); e != api.OK {
			t.Error(x, e)
		}
	}
	for _, x := range []api.Ask{{}, {Kind: -1}, {Kind: 7}, {Kind: 9, Key: "a"}, {Kind: 4}, {Kind: 5}, {Kind: 6}, {Kind: 4, X: []api.Ask{a, a}}, {Kind: 5, X: []api.Ask{a}}, {Kind: 6, X: []api.Ask{a, a, a}},
		{Kind: 1, Key: "a", Value: "b"}, {Kind: 1, Key: "a", N: 1}, {Kind: 1, Key: "a", X: []api.Ask{a}}, {Kind: 2, Key: "a", Value: "b", N: -1}, {Kind: 2, Key: "a", Value: "b", X: []api.Ask{a}},
		{Kind: 3, Key: "cpu", Value: "a"}, {Kind: 3, Key: "cpu", X: []api.Ask{a, a}}, {Kind: 4, Key: "a", X: []api.Ask{a}}, {Kind: 5, Value: "a", X: []api.Ask{a, a}}, {Kind: 6, N: 1, X: []api.Ask{a, a}}} {
		wantError(t, x, api.ErrArg)
		wantError(t, not(x), api.ErrArg)
	}
	for _, x := range []api.Ask{has(""), has("A"), has("1"), is("a", ""), is("", "a"), is("", ""), is("a", "B"), more("", 1), more("disk", 1), more("Cpu", 1), more("cpu ", 1), more("cp", 1)} {
		wantError(t, x, api.ErrForm)
		wantError(t, and(a, x), api.ErrForm)
	}
	for _, n := range []int64{-1, math.MinInt64, units + 1, math.MaxInt64} {
		wantError(t, more("cpu", n), api.ErrRange)
		wantError(t, or(more("gpu", n), a), api.ErrRange)
	}
}

// P80: within one ask ErrArg is told ahead of ErrForm, that ahead of ErrRange; and ErrLarge ahead of all.
func TestCheckOrderInOne(t *testing.T) {
	wantError(t, api.Ask{Kind: 3, Key: "disk", N: -1, Value: "a"}, api.ErrArg)
	wantError(t, api.Ask{Kind: 3, Key: "disk", N: -1, X: []api.Ask{{}}}, api.ErrArg)
	wantError(t, api.Ask{Kind: 3, Key: "disk", N: -1}, api.ErrForm)
	wantError(t, api.Ask{Kind: 3, Key: "mem", N: -1}, api.ErrRange)
	wantError(t, api.Ask{Kind: 1, Key: "A", Value: "A"}, api.ErrArg)
	wantError(t, api.Ask{Kind: 7, Key: "A", Value: "A", N: -1, X: make([]api.Ask, 59)}, api.ErrArg)
	wantError(t, api.Ask{Kind: 7, Key: "A", Value: "A", N: -1, X: make([]api.Ask, 60)}, api.ErrLarge)
}

// P80: an ask is looked at ahead of those in it, and each of those with all in it ahead of the next one.
func TestCheckOrder(t *testing.T) {
	a, form, place, arg := has("a"), has("A"), more("cpu", -1), api.Ask{Kind: 7}
	for _, x := range []struct {
		x    api.Ask
		want api.Errno
	}{
		{and(form, place), api.ErrForm},
		{and(place, form), api.ErrRange},
		{and(place, arg), api.ErrRange},
		{or(arg, form), api.ErrArg},
		{and(not(not(form)), arg), api.ErrForm},
		{and(a, or(not(place), form)), api.ErrRange},
		{or(and(a, place), not(arg)), api.ErrRange},
		{or(or(a, or(a, form)), and(arg, arg)), api.ErrForm},
		{api.Ask{Kind: 5, X: []api.Ask{form}}, api.ErrArg},
		{api.Ask{Kind: 5, Key: "A", X: []api.Ask{form, place}}, api.ErrArg},
		{api.Ask{Kind: 5, N: 1, X: []api.Ask{form, place}}, api.ErrArg},
		{api.Ask{Kind: 7, X: []api.Ask{form, place}}, api.ErrArg},
		{not(api.Ask{Kind: 1, Key: "a", X: []api.Ask{form}}), api.ErrArg},
	} {
		wantError(t, x.x, x.want)
	}
}

// P80: 60 asks, itself included, and not one more, however they stand.
func TestCheckLarge(t *testing.T) {
	a := has("a")
	left := func(n int) api.Ask { return chain(and, slices.Repeat([]api.Ask{a}, n)...) }
	for _, x := range []api.Ask{nots(59, a), not(left(30)), left(30), and(nots(28, a), not(left(15))), or(left(15), nots(29, a))} {
		if e := Check(x); e != api.OK || toldCount(x) > 60 {
			t.Error(toldCount(x), e)
		}
	}
	for _, x := range []api.Ask{nots(60, a), not(not(left(30))), left(31), and(left(30), a), and(nots(29, a), not(left(15))), or(left(15), nots(30, a)), doubled(5), left(1000), nots(5000, a)} {
		if toldCount(x) != 61 {
			t.Error(toldCount(x))
		}
		wantError(t, x, api.ErrLarge)
	}
	for _, kind := range []int{0, 1, 2, 3, 4, 5, 6, 7} {
		wantError(t, api.Ask{Kind: kind, X: make([]api.Ask, 60)}, api.ErrLarge)
		wantError(t, api.Ask{Kind: kind, X: make([]api.Ask, 100000)}, api.ErrLarge)
	}
	wantError(t, and(api.Ask{}, nots(59, has("A"))), api.ErrLarge)
}

// P1: what has no end ends as too much.
func TestEndless(t *testing.T) {
	for _, kind := range []int{0, 1, 4, 5, 6, 7} {
		for lists := 1; lists <= 3; lists++ {
			wantError(t, endless(kind, lists), api.ErrLarge)
			wantError(t, not(endless(kind, lists)), api.ErrLarge)
		}
	}
	wantError(t, doubled(60), api.ErrLarge)
	wantError(t, doubled(5000), api.ErrLarge)
}

// P3: Alike tells the first one's error, whatever the second one's.
func TestAlikeFirstError(t *testing.T) {
	wrong := []api.Ask{{}, has("A"), more("cpu", -1), nots(60, has("a"))}
	for _, x := range wrong {
		for _, y := range wrong {
			if ok, e := Alike(x, y); ok || e != toldCheck(x) {
				t.Error(x, y, ok, e)
			}
		}
	}
}

// P80: any asks, some of them spoiled here and there.
func TestCheckAny(t *testing.T) {
	r := rand.New(rand.NewSource(80))
	found := map[api.Errno]int{}
	for range 20000 {
		x := anyAsk(r, 1+r.Intn(12), anyAtom)
		for range r.Intn(4) {
			spoil(r, &x)
		}
		found[toldCheck(x)]++
		wantChecked(t, x)
		if t.Failed() {
			t.FailNow()
		}
	}
	for _, e := range []api.Errno{api.OK, api.ErrArg, api.ErrForm, api.ErrRange} {
		if found[e] < 200 {
			t.Error(found)
		}
	}
}

// P81: the text of each kind, and that it is read.
func TestText(t *testing.T) {
	long := "z" + strings.Repeat("9", 18) + "-"
	for want, x := range map[string]api.Ask{
		"?a":                     has("a"),
		"?cpu":                   has("cpu"),
		"?" + long:               has(long),
		"os=linux":               is("os", "linux"),
		"cpu=gpu":                is("cpu", "gpu"),
		"a-=b-0":                 is("a-", "b-0"),
		long + "=" + long:        is(long, long),
		"cpu>=0":                 more("cpu", 0),
		"mem>=10":                more("mem", 10),
		"gpu>=1099511627776":     more("gpu", units),
		"!?a":                    not(has("a")),
		"!!a=b":                  not(not(is("a", "b"))),
		"(?a&?b)":                and(has("a"), has("b")),
		"(?a|?b)":                or(has("a"), has("b")),
		"!(?a&!mem>=1)":          not(and(has("a"), not(more("mem", 1)))),
		"((?a|a=b)&(cpu>=1|?a))": and(or(has("a"), is("a", "b")), or(more("cpu", 1), has("a"))),
		"(?a|(?b|(?c|?d)))":      or(has("a"), or(has("b"), or(has("c"), has("d")))),
		"(((?a&?b)&?c)&?d)":      and(and(and(has("a"), has("b")), has("c")), has("d")),
	} {
		wantText(t, x, want)
		wantRead(t, want, x, api.OK)
	}
}

// P81: the longest text of all has less bytes than may be read.
func TestLongestText(t *testing.T) {
	long := strings.Repeat("z", 20)
	x := not(chain(or, slices.Repeat([]api.Ask{is(long, long)}, 30)...))
	s, e := Text(x)
	if len(s) != 1+30*41+29*3 || e != api.OK {
		t.Error(len(s), e)
	}
	wantRead(t, s, x, api.OK)
	wantRead(t, "!"+s, api.Ask{}, api.ErrForm)
}

// P81: what is no text of an ask.
func TestReadForm(t *testing.T) {
	for _, s := range []string{
		"", " ", "a", "cpu", "?", "!", "=", ">=", "&", "|", "(", ")", "()", "-", "0", "\x00", "\xff",
		"? a", "?a ", " ?a", "?a\n", "??a", "?A", "?1a", "?-a", "?a_", "?ä", "?a?b", "?a=b", "?cpu>=1", "?" + strings.Repeat("a", 21),
		"a=", "=a", "a==b", "a=b=c", "a =b", "a= b", "A=b", "a=B", "1=a", "a=1", "a=-b", "-a=b", "a=?b", "a!=b", strings.Repeat("a", 21) + "=b", "a=" + strings.Repeat("b", 21),
		"cpu>=", ">=1", "cpu>1", "cpu=>1", "cpu=1", "cpu<=1", "cpu>=>=1", "cpu>==1", "cpu>=-1", "cpu>=+1", "cpu>=01", "cpu>=00", "cpu>=1.0", "cpu>=1e3", "cpu>=0x1", "cpu>=1a", "cpu>=a", "cpu>=1-", "cpu>=1 ", "cpu>= 1", "cpu >=1", "cpu>=１",
		"disk>=1", "Cpu>=1", "xcpu>=1", "cpux>=1", "cp>=1", "a>=1", "os>=0",
		"cpu>=1099511627777", "gpu>=9223372036854775807", "cpu>=9223372036854775808", "cpu>=18446744073709551616", "cpu>=18446744073709551617", "mem>=1" + strings.Repeat("0", 1900),
		"!!", "! ?a", "!a", "?!a", "?a!", "!()", "!(?a)", "?a&?b", "?a|?b", "!?a&?b",
		"(?a)", "((?a))", "(?a&)", "(&?a)", "(?a|)", "(|?a)", "(?a&?b", "?a&?b)", "(?a&?b))", "((?a&?b)", "(?a&?b&?c)", "(?a|?b|?c)", "(?a&?b|?c)", "(?a&&?b)", "(?a||?b)", "(?a&|?b)", "(?a?b)", "(?a,?b)", "(?a+?b)", "(?a & ?b)", "( ?a&?b)", "(?a&?b )", "[?a&?b]", "(a&b)", "(?a&?b)?c", "(?a&?b)(?c&?d)", "!(?a&?b", ")?a&?b(",
	} {
		wantRead(t, s, api.Ask{}, api.ErrForm)
		wantReadTold(t, s)
		wantReadTold(t, "!"+s)
		wantReadTold(t, "("+s+"&"+s+")")
		wantReadTold(t, "(?a|"+s+")")
	}
}

// P81: more than 2000 bytes are too many, whatever they are; with 2000 it counts what they are.
func TestReadLarge(t *testing.T) {
	for _, s := range []string{"!", "(", ")", "?", "a", "?a", "(?a&", "((?a&?b)|", "cpu>=", "9", " ", "\xff"} {
		s = strings.Repeat(s, 2001)
		wantRead(t, s[:1999], api.Ask{}, api.ErrForm)
		wantRead(t, s[:2000], api.Ask{}, api.ErrForm)
		wantRead(t, s[:2001], api.Ask{}, api.ErrLarge)
		wantRead(t, s, api.Ask{}, api.ErrLarge)
	}
	wantRead(t, strings.Repeat("(", 1000)+"?a"+strings.Repeat("&?a)", 249), api.Ask{}, api.ErrForm)
	wantRead(t, strings.Repeat("!", 1<<20), api.Ask{}, api.ErrLarge)
}

// P81: a text of more than 60 asks is none.
func TestReadManyAsks(t *testing.T) {
	for n := range 70 {
		wantReadTold(t, strings.Repeat("!", n)+"?a")
		wantReadTold(t, strings.Repeat("(", n)+"?a"+strings.Repeat("&?a)", n))
		wantReadTold(t, strings.Repeat("(a=b|", n)+"!?a"+strings.Repeat(")", n))
	}
	wantRead(t, strings.Repeat("!", 59)+"?a", nots(59, has("a")), api.OK)
	wantRead(t, strings.Repeat("!", 60)+"?a", api.Ask{}, api.ErrForm)
}

// wantEachText reads all texts of up to so many pieces.
func wantEachText(t *testing.T, most int, pieces ...string) {
	t.Helper()
	texts := []string{""}
	for range most {
		var longer []string
		for _, s := range texts {
			for _, p := range pieces {
				longer = append(longer, s+p)
			}
		}
		texts = longer
		for _, s := range texts {
			wantReadTold(t, s)
		}
		if t.Failed() {
			t.FailNow()
		}
	}
}

// P81: all texts of a few pieces.
func TestReadEachText(t *testing.T) {
	wantEachText(t, 4, "?", "a", "cpu", "mem", "=", ">", ">=", "0", "1", "-", "!", "(", ")", "&", "|", " ")
	wantEachText(t, 7, "?a", "!", "(", ")", "&", "|")
	wantEachText(t, 7, "gpu", "?", "=", ">=", "0", "7")
}

// P81: a text with one byte more, less, or another one is read as what it is then.
func TestReadOneByteOff(t *testing.T) {
	for _, s := range []string{"?a", "os=linux", "cpu>=10", "mem>=1099511627776", "!?a", "(?a&b=c)", "!((a=b|?x-1)&!(cpu>=1|!!?gpu))"} {
		for at := range len(s) + 1 {
			for b := range 256 {
				one := string([]byte{byte(b)})
				wantReadTold(t, s[:at]+one+s[at:])
				if at < len(s) {
					wantReadTold(t, s[:at]+one+s[at+1:])
				}
			}
			if at < len(s) {
				wantReadTold(t, s[:at]+s[at+1:])
			}
			wantReadTold(t, s[:at])
			wantReadTold(t, s[at:])
		}
	}
}

// P81: any ask has one text, and is read from it again.
func TestTextAny(t *testing.T) {
	r := rand.New(rand.NewSource(81))
	for range 5000 {
		x := anyAsk(r, 1+r.Intn(60), anyAtom)
		s := toldText(x)
		wantText(t, x, s)
		wantRead(t, s, x, api.OK)
		if t.Failed() {
			t.FailNow()
		}
	}
}

// P82: of each kind, what of a host counts.
func TestHolds(t *testing.T) {
	h := api.Host{Name: "?", Labels: []api.Label{{Key: "os", Value: "linux"}, {Key: "zone", Value: "a"}, {Key: "os", Value: "mac"}, {Key: "", Value: "B"}}, Has: api.Need{Cpu: 4, Mem: 8}, Used: api.Need{Cpu: 4, Mem: 9, Gpu: units}}
	for s, want := range map[string]bool{
		"?os": true, "?zone": true, "?linux": false, "?a": false, "?o": false, "?oss": false,
		"os=linux": true, "os=mac": true, "zone=a": true, "os=a": false, "zone=linux": false, "linux=os": false, "os=lin": false, "a=zone": false,
		"cpu>=0": true, "cpu>=4": true, "cpu>=5": false, "mem>=8": true, "mem>=9": false, "gpu>=0": true, "gpu>=1": false,
		"!?os": false, "!?q": true, "!!?os": true, "!cpu>=5": true,
		"(?os&?zone)": true, "(?os&?q)": false, "(?q&?os)": false, "(?q&?q)": false,
		"(?os|?zone)": true, "(?os|?q)": true, "(?q|?os)": true, "(?q|?q)": false,
		"!(?q|mem>=9)": true, "(!?q&(os=a|!(gpu>=1&?os)))": true,
	} {
		wantHolds(t, toldParse(s), h, want)
	}
}

// P82: a host that there can't be is one, too.
func TestHoldsOfAnyHost(t *testing.T) {
	wantHolds(t, has("a"), api.Host{}, false)
	wantHolds(t, is("a", "b"), api.Host{}, false)
	wantHolds(t, not(has("a")), api.Host{}, true)
	wantHolds(t, more("cpu", 0), api.Host{}, true)
	wantHolds(t, more("cpu", 1), api.Host{}, false)
	least := api.Host{Has: api.Need{Cpu: -1, Mem: math.MinInt64, Gpu: math.MaxInt64}, Used: api.Need{Cpu: -5}}
	wantHolds(t, more("cpu", 0), least, false)
	wantHolds(t, more("mem", 0), least, false)
	wantHolds(t, more("mem", units), least, false)
	wantHolds(t, more("gpu", units), least, true)
	many := api.Host{Labels: slices.Repeat([]api.Label{{Key: "A", Value: "a=b"}, {Key: "a", Value: ""}}, 5000)}
	wantHolds(t, has("a"), many, true)
	wantHolds(t, is("a", "b"), many, false)
	many.Labels = append(many.Labels, api.Label{Key: "a", Value: "b"})
	wantHolds(t, is("a", "b"), many, true)
}

// P82: any asks of any hosts.
func TestHoldsAny(t *testing.T) {
	r := rand.New(rand.NewSource(82))
	count := 0
	for range 30000 {
		x, h := anyAsk(r, 1+r.Intn(20), anyAtom), anyHost(r)
		want := toldHolds(x, h)
		wantHolds(t, x, h, want)
		if want {
			count++
		}
		if t.Failed() {
			t.FailNow()
		}
	}
	if count < 5000 || count > 25000 {
		t.Error(count)
	}
}

// P83: ANot stays ahead of asks that have none in them.
func TestNorm(t *testing.T) {
	for s, want := range map[string]string{
		"?a": "?a", "a=b": "a=b", "cpu>=1": "cpu>=1", "!?a": "!?a", "!a=b": "!a=b", "!cpu>=1": "!cpu>=1",
		"!!?a": "?a", "!!!a=b": "!a=b", "!!!!cpu>=1": "cpu>=1",
		"(?a&?b)": "(?a&?b)", "(?a|!?b)": "(?a|!?b)", "!(?a&?b)": "(!?a|!?b)", "!(?a|?b)": "(!?a&!?b)", "!!(?a&?b)": "(?a&?b)", "!!!(?a|?b)": "(!?a&!?b)",
		"!(!?a&?b)": "(?a|!?b)", "(!!?a&!(?b&!?c))": "(?a&(!?b|?c))",
		"!((?a|?b)&(?c|!(?d&?e)))": "((!?a&!?b)|(!?c&(?d&?e)))",
		"(?a&?a)":                  "(?a&?a)", "(?a|!?a)": "(?a|!?a)",
	} {
		wantNorm(t, toldParse(s), toldParse(want), api.OK)
	}
}

// P83: 60 asks behind it, and not one more; how many there are on the way does not count.
func TestNormLarge(t *testing.T) {
	a, b := has("a"), not(has("b"))
	// n atoms without ANot and m with one have 2n+2m-1+m asks; with ANot ahead of all of them 2n+2m-1+n are made of that.
	row := func(n, m int) api.Ask {
		return not(chain(and, append(slices.Repeat([]api.Ask{a}, n), slices.Repeat([]api.Ask{b}, m)...)...))
	}
	for _, x := range []struct{ n, m, size int }{{20, 0, 59}, {19, 2, 60}, {20, 1, 61}, {21, 0, 62}, {18, 3, 59}, {17, 5, 60}, {18, 4, 61}, {30, 0, 89}} {
		y, e := Norm(row(x.n, x.m))
		want := api.OK
		if x.size > 60 {
			want = api.ErrLarge
		}
		if e != want || e == api.OK && toldCount(y) != x.size || e != api.OK && !isZero(y) {
			t.Error(x, toldCount(y), e)
		}
	}
	left, right := chain(or, slices.Repeat([]api.Ask{a}, 14)...), chain(and, slices.Repeat([]api.Ask{a}, 15)...)
	x := not(and(not(left), not(right)))
	if toldCount(x) != 60 {
		t.Error(toldCount(x))
	}
	wantNorm(t, x, or(left, right), api.OK)
	wantNorm(t, nots(59, a), not(a), api.OK)
	wantNorm(t, nots(58, a), a, api.OK)
}

// P83: any asks, and that what comes of them is one more time itself.
func TestNormAny(t *testing.T) {
	r := rand.New(rand.NewSource(83))
	large := 0
	for range 10000 {
		x := anyAsk(r, 1+r.Intn(60), anyAtom)
		want, err := toldNorm(x)
		wantNorm(t, x, want, err)
		if err == api.OK {
			wantNorm(t, want, want, api.OK)
		} else {
			large++
		}
		h := anyHost(r)
		if y, e := Norm(x); e == api.OK {
			wantHolds(t, y, h, toldHolds(x, h))
		}
		if t.Failed() {
			t.FailNow()
		}
	}
	if large < 100 {
		t.Error(large)
	}
}

// P83: whichever of the asks within hold, whatever they ask for.
func TestAlike(t *testing.T) {
	for _, x := range []struct {
		x, y string
		want bool
	}{
		{"?a", "?a", true}, {"?a", "?b", false}, {"?a", "!?a", false}, {"!!?a", "?a", true},
		{"(?a&?b)", "(?b&?a)", true}, {"(?a|?b)", "(?b|?a)", true}, {"(?a&?b)", "(?a|?b)", false}, {"?a", "(?a&?a)", true}, {"?a", "(?a|?a)", true},
		{"!(?a&?b)", "(!?a|!?b)", true}, {"!(?a|?b)", "(!?a&!?b)", true}, {"!(?a&?b)", "(!?a&!?b)", false},
		{"(?a|!?a)", "(?b|!?b)", true}, {"(?a&!?a)", "(?b&!?b)", true}, {"(?a&!?a)", "(?b|!?b)", false},
		{"(?a&(?b|?c))", "((?a&?b)|(?a&?c))", true}, {"(?a|(?a&?b))", "?a", true}, {"(?a|(!?a&?b))", "(?a|?b)", true}, {"(?a|(?b&?c))", "((?a|?b)&?c)", false},
		{"cpu>=1", "cpu>=2", false}, {"cpu>=0", "gpu>=0", false}, {"cpu>=0", "(?a|!?a)", false}, {"(cpu>=1&cpu>=2)", "cpu>=2", false},
		{"?a", "a=b", false}, {"(?a&a=b)", "a=b", false}, {"(a=b&a=c)", "(?d&!?d)", false}, {"cpu=cpu", "?cpu", false}, {"?cpu", "cpu>=0", false}, {"cpu=cpu", "cpu>=0", false},
		{"a=b", "a=c", false}, {"a=b", "c=b", false}, {"a=b", "b=a", false}, {"cpu>=1", "mem>=1", false},
	} {
		wantAlike(t, toldParse(x.x), toldParse(x.y), x.want, api.OK)
	}
}

// letters is so many unlike asks.
func lettered(n int) []api.Ask {
	var l []api.Ask
	for i := range n {
		name := string(rune('a' + i))
		l = append(l, []api.Ask{has(name), is("a", name), more([]string{"cpu", "mem", "gpu"}[i%3], int64(i))}[i/2%3])
	}
	return l
}

// P83: 12 unlike asks together, and not one more, however often each of them stands there.
func TestAlikeLarge(t *testing.T) {
	l := lettered(13)
	twelve, thirteen := chain(and, l[:12]...), chain(and, l...)
	again := chain(and, append(slices.Clone(l[:12]), l[:12]...)...)
	wantAlike(t, twelve, twelve, true, api.OK)
	wantAlike(t, twelve, again, true, api.OK)
	wantAlike(t, again, or(l[3], again), false, api.OK)
	wantAlike(t, twelve, l[12], false, api.ErrLarge)
	wantAlike(t, thirteen, thirteen, false, api.ErrLarge)
	wantAlike(t, thirteen, l[0], false, api.ErrLarge)
	for n := 1; n < 12; n++ {
		wantAlike(t, chain(and, l[:n]...), chain(and, l[n:12]...), false, api.OK)
		wantAlike(t, chain(and, l[:n]...), chain(and, l[n:]...), false, api.ErrLarge)
		wantAlike(t, chain(or, l[:n]...), chain(or, l[n-1:12]...), false, api.OK)
	}
	for n := range 13 {
		wantAlike(t, chain(or, slices.Delete(slices.Clone(l), n, n+1)...), l[(n+1)%13], false, api.OK)
	}
}

// P83 and P3: a wrong ask is told ahead of too many.
func TestAlikeLargeOrder(t *testing.T) {
	thirteen := chain(and, lettered(13)...)
	for _, x := range []api.Ask{{}, has("A"), more("cpu", -1)} {
		for _, two := range [][]api.Ask{{x, thirteen}, {thirteen, x}, {and(thirteen, x), thirteen}} {
			if ok, e := Alike(two[0], two[1]); ok || e != toldCheck(x) {
				t.Error(x, ok, e)
			}
		}
	}
}

// P83: what differs for one choice only of those that hold is not alike.
func TestAlikeOneChoice(t *testing.T) {
	l := lettered(12)
	choices := []int{0, 1<<12 - 1, 0x555, 0xaaa, 0x0f3}
	for i := range l {
		choices = append(choices, 1<<i, 1<<12-1-1<<i)
	}
	for _, choice := range choices {
		var row []api.Ask
		for i, x := range l {
			if choice>>i&1 == 0 {
				x = not(x)
			}
			row = append(row, x)
		}
		only := chain(and, row...)
		wantAlike(t, only, and(l[0], not(l[0])), false, api.OK)
		wantAlike(t, not(only), or(l[11], not(l[11])), false, api.OK)
		wantAlike(t, and(only, not(row[5])), and(l[0], not(l[0])), true, api.OK)
	}
}

// P83: any asks, and each beside its own Norm.
func TestAlikeAny(t *testing.T) {
	r := rand.New(rand.NewSource(84))
	few := func(r *rand.Rand) api.Ask { return []api.Ask{has("a"), is("a", "b"), more("cpu", 1)}[r.Intn(3)] }
	found := map[bool]int{}
	for range 20000 {
		x, y := anyAsk(r, 1+r.Intn(9), few), anyAsk(r, 1+r.Intn(9), few)
		want, err := toldAlike(x, y)
		wantAlike(t, x, y, want, err)
		found[want]++
		z, _ := Norm(x)
		wantAlike(t, x, z, true, api.OK)
		wantAlike(t, not(x), x, false, api.OK)
		if t.Failed() {
			t.FailNow()
		}
	}
	if found[true] < 500 || found[false] < 500 {
		t.Error(found)
	}
	for range 200 {
		x, y := anyAsk(r, 1+r.Intn(25), anyAtom), anyAsk(r, 1+r.Intn(25), anyAtom)
		want, err := toldAlike(x, y)
		wantAlike(t, x, y, want, err)
	}
}

// roomy is an ask each of whose lists has room behind it, in which something stands.
func roomy(x api.Ask) api.Ask {
	if len(x.X) == 0 {
		x.X = []api.Ask{{Kind: 8, Key: "room"}}[:0]
		return x
	}
	room := make([]api.Ask, len(x.X)+2)
	for i, y := range x.X {
		room[i] = roomy(y)
	}
	room[len(x.X)], room[len(x.X)+1] = has("room"), api.Ask{Kind: 9, N: 7}
	x.X = room[:len(x.X)]
	return x
}

// opened shows the room behind each list of an ask, too.
func opened(x api.Ask) api.Ask {
	y := x
	y.X = nil
	for _, z := range x.X[:cap(x.X)] {
		y.X = append(y.X, opened(z))
	}
	return y
}

// P2: what is handed in stays, the room behind its lists included.
func TestHandedInStays(t *testing.T) {
	r := rand.New(rand.NewSource(2))
	for range 2000 {
		x, y, h := roomy(anyAsk(r, 1+r.Intn(25), anyAtom)), roomy(anyAsk(r, 1+r.Intn(5), anyAtom)), anyHost(r)
		if r.Intn(3) == 0 {
			spoil(r, &x)
		}
		h.Labels = append(h.Labels, api.Label{Key: "room", Value: "room"})[:len(h.Labels)]
		keptX, keptY, keptLabels := opened(x), opened(y), slices.Clone(h.Labels[:cap(h.Labels)])
		for range 2 {
			Check(x)
			Text(x)
			Holds(x, h)
			Norm(x)
			Alike(x, y)
		}
		if !reflect.DeepEqual(opened(x), keptX) || !reflect.DeepEqual(opened(y), keptY) || !slices.Equal(h.Labels[:cap(h.Labels)], keptLabels) {
			t.Fatal(x, y, h)
		}
	}
}

// overwrite each ask that the lists of one have, and those behind them.
func overwrite(x api.Ask) {
	for i, y := range x.X[:cap(x.X)] {
		overwrite(y)
		x.X[:cap(x.X)][i] = api.Ask{Kind: 77}
	}
}

// P2: what Norm answers shares no list with what was handed in, what it answers again, or another part of it.
func TestNormOwnMemory(t *testing.T) {
	r := rand.New(rand.NewSource(3))
	for range 2000 {
		x := anyAsk(r, 1+r.Intn(25), anyAtom)
		// Both parts are one and the same list.
		x = not(or(x, x))
		want, err := toldNorm(x)
		first, e := Norm(x)
		if err != api.OK {
			continue
		}
		second, _ := Norm(x)
		kept := copied(x)
		overwrite(first)
		if !reflect.DeepEqual(x, kept) || e != api.OK {
			t.Fatal(x, e)
		}
		overwrite(x)
		overwrite(second.X[0])
		if !reflect.DeepEqual(copied(second.X[1]), want.X[1]) {
			t.Fatal(second.X[1])
		}
	}
}

// P2: what Read answers is new each time, and no two lists of it are one.
func TestReadOwnMemory(t *testing.T) {
	r := rand.New(rand.NewSource(4))
	for range 2000 {
		part := anyAsk(r, 1+r.Intn(25), anyAtom)
		s := toldText(and(part, part))
		first, _ := Read(s)
		second, _ := Read(s)
		overwrite(first)
		overwrite(second.X[0])
		if !reflect.DeepEqual(copied(second.X[1]), part) {
			t.Fatal(s)
		}
		wantRead(t, s, and(part, part), api.OK)
	}
}

// P2: texts that are answered lie elsewhere than those that were handed in: what comes to these bytes later does not show.
func TestTextsOwnMemory(t *testing.T) {
	bytes := []byte("(!os=linux|?gpu)")
	x, _ := Read(unsafe.String(&bytes[0], len(bytes)))
	clear(bytes)
	wantText(t, x, "(!os=linux|?gpu)")

	key, value := []byte("os"), []byte("linux")
	y, _ := Norm(not(is(unsafe.String(&key[0], 2), unsafe.String(&value[0], 5))))
	z, _ := Norm(has(unsafe.String(&key[0], 2)))
	clear(key)
	clear(value)
	wantText(t, y, "!os=linux")
	wantText(t, z, "?os")
}
