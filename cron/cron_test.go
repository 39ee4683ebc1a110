package cron

import (
	"math"
	"math/rand"
	"regexp"
	"slices"
	"strconv"
	"strings"
	"testing"
	"time"

	"shiftbell/api"
)

// bounds of the five sets, written out anew.
var bounds = [5][2]int{{0, 59}, {0, 23}, {1, 31}, {1, 12}, {0, 6}}

func set(numbers ...int) uint64 {
	s := uint64(0)
	for _, n := range numbers {
		s |= uint64(1) << n
	}
	return s
}

func from(a, b int) uint64 {
	s := uint64(0)
	for n := a; n <= b; n++ {
		s |= set(n)
	}
	return s
}

func always() api.Cron {
	return api.Cron{Min: from(0, 59), Hour: from(0, 23), Dom: from(1, 31), Mon: from(1, 12), Dow: from(0, 6)}
}

func field(c *api.Cron, i int) *uint64 {
	return []*uint64{&c.Min, &c.Hour, &c.Dom, &c.Mon, &c.Dow}[i]
}

func mustParse(t *testing.T, s string) api.Cron {
	t.Helper()
	c, e := Parse(s)
	if e != api.OK {
		t.Fatal(s, e)
	}
	return c
}

func minuteOf(y, m, d, hh, mm int) int {
	begin := time.Date(1, 1, 1, 0, 0, 0, 0, time.UTC).Unix()
	return int(time.Date(y, time.Month(m), d, hh, mm, 0, 0, time.UTC).Unix()-begin) / 60
}

func dateOf(t int) time.Time {
	begin := time.Date(1, 1, 1, 0, 0, 0, 0, time.UTC).Unix()
	return time.Unix(begin+int64(t)*60, 0).UTC()
}

func in(s uint64, n int) bool { return s&(uint64(1)<<n) != 0 }

// slowDay is P22's sentence on days over the calendar of package time.
func slowDay(c api.Cron, d time.Time) bool {
	dom, dow := in(c.Dom, d.Day()), in(c.Dow, int(d.Weekday()))
	fits := dom || dow
	if c.Dom == from(1, 31) {
		fits = dow
	} else if c.Dow == from(0, 6) {
		fits = dom
	}
	return fits && in(c.Mon, int(d.Month()))
}

func slowMatch(c api.Cron, t int) bool {
	d := dateOf(t)
	return slowDay(c, d) && in(c.Min, d.Minute()) && in(c.Hour, d.Hour())
}

// P5: the constants that this package leans on, and P22's last minute.
func TestConstants(t *testing.T) {
	if api.MaxCron != 200 || api.MaxMinute != 5258964959 {
		t.Error(api.MaxCron, api.MaxMinute)
	}
	if n := minuteOf(9999, 12, 31, 23, 59); n != api.MaxMinute {
		t.Error(n)
	}
}

// P20: every one number, in and out of each set, and each set empty.
func TestCheckEachBit(t *testing.T) {
	if e := Check(always()); e != api.OK {
		t.Error(e)
	}
	for i, b := range bounds {
		for n := range 64 {
			want := api.ErrForm
			if n >= b[0] && n <= b[1] {
				want = api.OK
			}
			c := always()
			*field(&c, i) = set(n)
			if e := Check(c); e != want {
				t.Error(i, n, e)
			}
			c = always()
			*field(&c, i) |= set(n)
			if e := Check(c); e != want {
				t.Error("beside all", i, n, e)
			}
		}
		c := always()
		*field(&c, i) = 0
		if e := Check(c); e != api.ErrForm {
			t.Error("empty", i, e)
		}
	}
}

// P20
func TestPrint(t *testing.T) {
	for want, c := range map[string]api.Cron{
		"* * * * *":                  always(),
		"0 0 1 1 0":                  {Min: set(0), Hour: set(0), Dom: set(1), Mon: set(1), Dow: set(0)},
		"59 23 31 12 6":              {Min: set(59), Hour: set(23), Dom: set(31), Mon: set(12), Dow: set(6)},
		"1-59 0-22 2-31 1-11 1-6":    {Min: from(1, 59), Hour: from(0, 22), Dom: from(2, 31), Mon: from(1, 11), Dow: from(1, 6)},
		"0,2,4-5 0-1,3 1,31 1-2 0,6": {Min: set(0, 2, 4, 5), Hour: set(0, 1, 3), Dom: set(1, 31), Mon: set(1, 2), Dow: set(0, 6)},
		"0-28,30-59 * * * 0-2,4-6":   {Min: from(0, 59) &^ set(29), Hour: from(0, 23), Dom: from(1, 31), Mon: from(1, 12), Dow: from(0, 6) &^ set(3)},
		"0 9 * * 1-5":                {Min: set(0), Hour: set(9), Dom: from(1, 31), Mon: from(1, 12), Dow: from(1, 5)},
	} {
		if s, e := Print(c); s != want || e != api.OK {
			t.Error(want, s, e)
		}
	}
	for i := range bounds {
		for _, bad := range []uint64{0, math.MaxUint64, set(63)} {
			c := always()
			*field(&c, i) = bad
			if s, e := Print(c); s != "" || e != api.ErrForm {
				t.Error(i, bad, s, e)
			}
		}
	}
}

// slowField tells a set by looking at each of its numbers and at those beside it.
func slowField(s uint64, b [2]int) string {
	if s == from(b[0], b[1]) {
		return "*"
	}
	var runs []string
	for n := b[0]; n <= b[1]; n++ {
		if !in(s, n) {
			continue
		}
		end := n
		for end < b[1] && in(s, end+1) {
			end++
		}
		run := strconv.Itoa(n)
		if end > n {
			run += "-" + strconv.Itoa(end)
		}
		runs = append(runs, run)
		n = end
	}
	return strings.Join(runs, ",")
}

func randomCron(r *rand.Rand) api.Cron {
	c := always()
	for i, b := range bounds {
		all := from(b[0], b[1])
		switch r.Intn(5) {
		case 0:
		case 1:
			*field(&c, i) = set(b[0] + r.Intn(b[1]-b[0]+1))
		case 2:
			*field(&c, i) = all &^ set(b[0]+r.Intn(b[1]-b[0]+1))
		case 3:
			a := b[0] + r.Intn(b[1]-b[0]+1)
			*field(&c, i) = from(a, a+r.Intn(b[1]-a+1))
		default:
			*field(&c, i) = r.Uint64()&all | set(b[0]+r.Intn(b[1]-b[0]+1))
		}
	}
	return c
}

// P20, P21: what is printed is read back.
func TestPrintParse(t *testing.T) {
	r := rand.New(rand.NewSource(20))
	for range 20000 {
		c := randomCron(r)
		var want []string
		for i, b := range bounds {
			want = append(want, slowField(*field(&c, i), b))
		}
		s, e := Print(c)
		if s != strings.Join(want, " ") || e != api.OK {
			t.Fatal(c, s, e)
		}
		if back, e := Parse(s); len(s) <= api.MaxCron && (back != c || e != api.OK) {
			t.Fatal(c, s, back, e)
		}
	}
}

// P21: each number, each two and each step, in each field.
func TestParseNumbers(t *testing.T) {
	for i, b := range bounds {
		for n := -1; n <= 120; n++ {
			text := strconv.Itoa(n)
			s, ok := uint64(0), n >= b[0] && n <= b[1]
			if ok {
				s = set(n)
			}
			wantField(t, i, text, s, ok)
			if n >= 0 {
				wantField(t, i, "0"+text, 0, false)
			}
			wantField(t, i, text+"/1", 0, false)
			wantField(t, i, "*/"+text, slowSteps(b[0], b[1], n), n >= 1 && n <= 99)
		}
		for x := b[0] - 1; x <= b[1]+1; x++ {
			for y := b[0] - 1; y <= b[1]+1; y++ {
				ok := b[0] <= x && x <= y && y <= b[1]
				text := strconv.Itoa(x) + "-" + strconv.Itoa(y)
				wantField(t, i, text, slowSteps(x, y, 1), ok)
				for _, step := range []int{0, 1, 2, 3, 7, 59, 60, 99, 100} {
					wantField(t, i, text+"/"+strconv.Itoa(step), slowSteps(x, y, step), ok && step >= 1 && step <= 99)
				}
			}
		}
	}
}

func slowSteps(x, y, step int) uint64 {
	s := uint64(0)
	for n := max(x, 0); n <= min(y, 63) && step > 0; n++ {
		if (n-x)%step == 0 {
			s |= set(n)
		}
	}
	return s
}

// wantField reads a text as one of the fields, the others all.
func wantField(t *testing.T, i int, text string, want uint64, ok bool) {
	t.Helper()
	texts := []string{"*", "*", "*", "*", "*"}
	texts[i] = text
	c, e := Parse(strings.Join(texts, " "))
	if !ok {
		if c != (api.Cron{}) || e != api.ErrForm {
			t.Error(i, text, c, e)
		}
		return
	}
	all := always()
	*field(&all, i) = want
	if c != all || e != api.OK {
		t.Error(i, text, c, e)
	}
}

// P21: several items in one field.
func TestParseItems(t *testing.T) {
	for text, want := range map[string]uint64{
		"5-9/2,7,8": set(5, 7, 8, 9),
		"9,1,5":     set(1, 5, 9),
		"3,3,3":     set(3),
		"*,5":       from(0, 59),
		"5,*/30":    set(0, 5, 30),
		"0-5,4-8":   from(0, 8),
		"7-7/9":     set(7),
		"10-59/25":  set(10, 35),
		"*/59":      set(0, 59),
		"*/60":      set(0),
	} {
		wantField(t, 0, text, want, true)
	}
	wantField(t, 2, "*/10", set(1, 11, 21, 31), true)
	wantField(t, 3, "*/5", set(1, 6, 11), true)
	wantField(t, 4, "6,0", set(0, 6), true)
}

// P21: wrong inputs, in each field.
func TestParseWrong(t *testing.T) {
	for i := range bounds {
		for _, text := range []string{"", ",", "1,", ",1", "1,,2", "-", "1-", "-1", "--", "1--2", "1-2-3", "1-*", "*-1", "*-*", "**", "*1", "1*", "/", "/1", "*/", "*/*", "*//2", "*/2/2", "*/02", "*/00", "*/0", "*/-1", "*/+1", "*/1-2", "1-2/", "1-2/0", "1-2/100", "1/2", "+1", "01", "00", "1.", "0x1", "a", "1a", "１", "\x001", "1\n", "\t1", "1-02", "01-2", "2-1", "*,60", "mon", "1;2", "\xff"} {
			wantField(t, i, text, 0, false)
		}
	}
	for _, s := range []string{"", " ", "    ", "*", "* * * *", "* * * * ", " * * * *", "* * * * * ", " * * * * *", "* * * * * *", "*  * * * *", "*\t* * * *", "*\n*\n*\n*\n*", "*****", "*,*,*,*,*"} {
		if c, e := Parse(s); c != (api.Cron{}) || e != api.ErrForm {
			t.Error(s, c, e)
		}
	}
}

// P21: a text of 200 bytes is read, one of 201 is too large, whatever is in it.
func TestParseLarge(t *testing.T) {
	end := " * * * *"
	most := strings.Repeat("1,", (api.MaxCron-len(end))/2-1) + "10" + end
	if c, e := Parse(most); len(most) != 200 || c.Min != set(1, 10) || e != api.OK {
		t.Error(len(most), c, e)
	}
	for _, s := range []string{"1" + most, "2," + most, strings.Repeat(" ", 201), strings.Repeat("*", 1000)} {
		if c, e := Parse(s); c != (api.Cron{}) || e != api.ErrLarge {
			t.Error(len(s), c, e)
		}
	}
	if _, e := Parse(strings.Repeat("*", 200)); e != api.ErrForm {
		t.Error(e)
	}
}

// P21 as a regular expression, against texts of the signs that count.
func TestParseAny(t *testing.T) {
	const number = `(0|[1-9][0-9]?)`
	const item = `((\*|` + number + `-` + number + `)(/[1-9][0-9]?)?|` + number + `)`
	const texts = item + `(,` + item + `)*`
	form := regexp.MustCompile(`\A` + texts + `( ` + texts + `){4}\z`)
	r := rand.New(rand.NewSource(21))
	good := 0
	for range 300000 {
		s := []byte("3 1-2/2,3 1-2 1,2 */2")
		for range r.Intn(4) {
			s[r.Intn(len(s))] = "0123*-/, "[r.Intn(9)]
		}
		c, e := Parse(string(s))
		want := form.Match(s) && inBounds(string(s))
		if want != (e == api.OK) || !want && (c != (api.Cron{}) || e != api.ErrForm) {
			t.Fatal(string(s), c, e)
		}
		if want {
			good++
			if e := Check(c); e != api.OK {
				t.Fatal(string(s), c, e)
			}
		}
	}
	if good < 1000 {
		t.Error("too few good ones", good)
	}
}

// inBounds wants a text of the form.
func inBounds(s string) bool {
	for i, f := range strings.Split(s, " ") {
		for _, item := range strings.Split(f, ",") {
			item, _, _ = strings.Cut(item, "/")
			numbers := strings.Split(item, "-")
			if item == "*" {
				continue
			}
			var read []int
			for _, n := range numbers {
				v, _ := strconv.Atoi(n)
				if v < bounds[i][0] || v > bounds[i][1] {
					return false
				}
				read = append(read, v)
			}
			if !slices.IsSorted(read) {
				return false
			}
		}
	}
	return true
}

// P22: which of the two sets of days counts.
func TestMatchDay(t *testing.T) {
	for _, c := range []struct {
		cron string
		day  int
		want bool
	}{
		// The first of November 2026 is a Sunday.
		{"* * * * 0", 1, true}, {"* * * * 0", 2, false},
		{"* * 2 * *", 2, true}, {"* * 2 * *", 1, false},
		{"* * 2 * 0", 1, true}, {"* * 2 * 0", 2, true}, {"* * 2 * 0", 3, false},
		{"* * 1 * 0", 1, true}, {"* * 1 * 0", 8, true}, {"* * 1 * 0", 9, false},
		{"* * 1-31 * 3", 4, true}, {"* * 1-31 * 3", 5, false},
		{"* * 5 * 0-6", 5, true}, {"* * 5 * 0-6", 6, false},
		{"* * * * *", 30, true}, {"* * * 10,12 *", 30, false}, {"* * * 11 *", 30, true},
	} {
		x := mustParse(t, c.cron)
		if ok, e := Match(x, minuteOf(2026, 11, c.day, 12, 30)); ok != c.want || e != api.OK {
			t.Error(c, ok, e)
		}
	}
}

// P22
func TestMatchMinute(t *testing.T) {
	x := mustParse(t, "15,45 6,18 * * *")
	noon := minuteOf(2026, 11, 18, 0, 0)
	var got []int
	for m := range 1440 {
		if ok, e := Match(x, noon+m); e != api.OK {
			t.Fatal(m, e)
		} else if ok {
			got = append(got, m)
		}
	}
	if !slices.Equal(got, []int{375, 405, 1095, 1125}) {
		t.Error(got)
	}
}

// P22: any cron at any time, and at both ends.
func TestMatchAny(t *testing.T) {
	r := rand.New(rand.NewSource(22))
	hits := 0
	for range 200000 {
		c, at := randomCron(r), r.Intn(api.MaxMinute+1)
		switch r.Intn(20) {
		case 0:
			at %= 1440 * 3
		case 1:
			at = api.MaxMinute - at%(1440*3)
		}
		ok, e := Match(c, at)
		if ok != slowMatch(c, at) || e != api.OK {
			t.Fatal(c, at, ok, e)
		}
		if ok {
			hits++
		}
	}
	if hits < 1000 {
		t.Error("too few hits", hits)
	}
}

// P22: no time, and no cron, which is told first.
func TestMatchWrong(t *testing.T) {
	for _, at := range []int{-1, -2, api.MaxMinute + 1, math.MinInt, math.MaxInt} {
		if ok, e := Match(always(), at); ok || e != api.ErrRange {
			t.Error(at, ok, e)
		}
	}
	for _, at := range []int{0, api.MaxMinute} {
		if ok, e := Match(always(), at); !ok || e != api.OK {
			t.Error(at, ok, e)
		}
	}
	for i := range bounds {
		for _, at := range []int{-2, -1, 0, api.MaxMinute + 1} {
			c := always()
			*field(&c, i) |= set(60)
			if ok, e := Match(c, at); ok || e != api.ErrForm {
				t.Error(i, at, ok, e)
			}
			if n, e := Next(c, at); n != 0 || e != api.ErrForm {
				t.Error(i, at, n, e)
			}
		}
	}
}

// P22
func TestNext(t *testing.T) {
	for _, c := range []struct {
		cron     string
		at, want int
	}{
		{"* * * * *", -1, 0},
		{"* * * * *", 0, 1},
		{"* * * * *", api.MaxMinute - 1, api.MaxMinute},
		{"59 23 31 12 *", -1, minuteOf(1, 12, 31, 23, 59)},
		{"59 23 31 12 *", api.MaxMinute - 1, api.MaxMinute},
		{"0 9 * * 1-5", minuteOf(2026, 11, 13, 9, 0), minuteOf(2026, 11, 16, 9, 0)},
		{"0 9 * * 1-5", minuteOf(2026, 11, 13, 8, 59), minuteOf(2026, 11, 13, 9, 0)},
		{"0 9 * * 1-5", minuteOf(2026, 11, 14, 0, 0), minuteOf(2026, 11, 16, 9, 0)},
		{"10 * * * *", minuteOf(2026, 11, 14, 3, 10), minuteOf(2026, 11, 14, 4, 10)},
		{"10 3,5 * * *", minuteOf(2026, 11, 14, 3, 10), minuteOf(2026, 11, 14, 5, 10)},
		{"10 3,5 * * *", minuteOf(2026, 11, 14, 5, 10), minuteOf(2026, 11, 15, 3, 10)},
		{"10 3,5 * * *", minuteOf(2026, 11, 14, 4, 59), minuteOf(2026, 11, 14, 5, 10)},
		{"59 23 * * *", minuteOf(2026, 11, 14, 23, 59), minuteOf(2026, 11, 15, 23, 59)},
		{"0 0 31 * *", minuteOf(2026, 3, 31, 0, 0), minuteOf(2026, 5, 31, 0, 0)},
		{"0 0 29 2 *", minuteOf(1896, 2, 29, 0, 0), minuteOf(1904, 2, 29, 0, 0)},
		{"0 0 29 2 *", minuteOf(1996, 2, 29, 0, 0), minuteOf(2000, 2, 29, 0, 0)},
		{"0 0 29,30 2 *", minuteOf(2096, 2, 29, 0, 0), minuteOf(2104, 2, 29, 0, 0)},
		{"0 0 30 2 3", minuteOf(2026, 11, 18, 0, 0), minuteOf(2027, 2, 3, 0, 0)},
		{"0 0 13 * 5", minuteOf(2026, 11, 6, 0, 0), minuteOf(2026, 11, 13, 0, 0)},
		{"0 0 14 * 5", minuteOf(2026, 11, 13, 0, 0), minuteOf(2026, 11, 14, 0, 0)},
		{"0 0 1 1 *", minuteOf(2026, 1, 1, 0, 0), minuteOf(2027, 1, 1, 0, 0)},
		{"0 0 1 1 *", minuteOf(2025, 12, 31, 23, 59), minuteOf(2026, 1, 1, 0, 0)},
	} {
		if n, e := Next(mustParse(t, c.cron), c.at); n != c.want || e != api.OK {
			t.Error(c, n, e)
		}
	}
}

// P22: none at all, none any more, and no time to begin at.
func TestNextNone(t *testing.T) {
	for _, s := range []string{"* * 30 2 *", "* * 30,31 2 *", "* * 31 2,4,6,9,11 *", "0 0 31 4 0-6"} {
		for _, at := range []int{-1, 0, minuteOf(2026, 11, 18, 0, 0), api.MaxMinute - 1, api.MaxMinute} {
			if n, e := Next(mustParse(t, s), at); n != 0 || e != api.ErrNone {
				t.Error(s, at, n, e)
			}
		}
	}
	for s, last := range map[string]int{
		"* * * * *":     api.MaxMinute,
		"0 0 * * *":     minuteOf(9999, 12, 31, 0, 0),
		"58 23 * * *":   api.MaxMinute - 1,
		"0 0 29 2 *":    minuteOf(9996, 2, 29, 0, 0),
		"30 12 1 1 *":   minuteOf(9999, 1, 1, 12, 30),
		"59 23 31 12 5": api.MaxMinute,
		"0 0 * * 4":     minuteOf(9999, 12, 30, 0, 0),
		"0 0 30 * *":    minuteOf(9999, 12, 30, 0, 0),
		"59 23 30 11 *": minuteOf(9999, 11, 30, 23, 59),
	} {
		x := mustParse(t, s)
		if n, e := Next(x, last-1); n != last || e != api.OK {
			t.Error(s, n, e)
		}
		if n, e := Next(x, last); n != 0 || e != api.ErrNone {
			t.Error(s, n, e)
		}
	}
	for _, at := range []int{-2, api.MaxMinute + 1, math.MinInt, math.MaxInt} {
		if n, e := Next(always(), at); n != 0 || e != api.ErrRange {
			t.Error(at, n, e)
		}
		if n, e := Next(mustParse(t, "0 0 30 2 *"), at); n != 0 || e != api.ErrRange {
			t.Error(at, n, e)
		}
	}
}

// slowNext goes minute by minute, and over whole days that don't match.
func slowNext(c api.Cron, at int) (int, api.Errno) {
	for at++; at <= api.MaxMinute; at++ {
		if slowMatch(c, at) {
			return at, api.OK
		}
		if at%1440 == 0 && !slowDay(c, dateOf(at)) {
			at += 1439
		}
	}
	return 0, api.ErrNone
}

// P22: any cron, from times near the ends, near leaps, and elsewhere.
func TestNextAny(t *testing.T) {
	r := rand.New(rand.NewSource(23))
	begins := []int{-1, minuteOf(1899, 12, 1, 0, 0), minuteOf(2000, 2, 1, 0, 0), minuteOf(2026, 11, 18, 0, 0), minuteOf(2095, 2, 1, 0, 0), api.MaxMinute - 1440*50}
	found := 0
	for range 5000 {
		c := randomCron(r)
		at := min(begins[r.Intn(len(begins))]+r.Intn(1440*50+2), api.MaxMinute)
		n, e := Next(c, at)
		if want, err := slowNext(c, at); n != want || e != err {
			t.Fatal(c, at, n, e, want, err)
		}
		if e == api.OK {
			found++
		}
	}
	if found < 3000 || found == 5000 {
		t.Error("too few of one kind", found)
	}
}

// P2: what was asked ahead does not show.
func TestSameForSame(t *testing.T) {
	s := "*/7 1-5 1 * 3"
	a := mustParse(t, s)
	if _, e := Parse("1 1 1 1 1"); e != api.OK {
		t.Error(e)
	}
	n, _ := Next(a, 1000)
	m, _ := Next(mustParse(t, s), 1000)
	if b := mustParse(t, s); a != b || n != m {
		t.Error(a, b, n, m)
	}
}
