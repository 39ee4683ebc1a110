package civil

import (
	"fmt"
	"math"
	"testing"

	"shiftbell/api"
)

// wrongDays are no days, the nearest and the farthest ones among them.
var wrongDays = []int{-1, 3652059, -3652058, math.MinInt, math.MaxInt, math.MinInt32, math.MaxInt32}

// month of the calendar, as it is counted out one by one.
type month struct{ y, m, first, length int }

// calendar counts out all months from the rule alone, without a call of the package.
func calendar() []month {
	var all []month
	day := 0
	for y := 1; y <= 9999; y++ {
		feb := 28
		switch {
		case y%400 == 0:
			feb = 29
		case y%100 == 0:
		case y%4 == 0:
			feb = 29
		}
		for i, length := range []int{31, feb, 31, 30, 31, 30, 31, 31, 30, 31, 30, 31} {
			all = append(all, month{y, i + 1, day, length})
			day += length
		}
	}
	return all
}

// P5: the numbers that this package leans on.
func TestNumbers(t *testing.T) {
	got := []int{int(api.OK), int(api.ErrArg), int(api.ErrForm), int(api.ErrRange), api.MaxYear, api.MaxDay, api.MaxMonths}
	for i, want := range []int{0, 1, 3, 4, 9999, 3652058, 120000} {
		if got[i] != want {
			t.Errorf("number %d: %d, want %d", i, got[i], want)
		}
	}
}

// P10 and P12: every day of all, there and back.
func TestEveryDay(t *testing.T) {
	weekday, n := 1, 0
	for _, c := range calendar() {
		for d := 1; d <= c.length; d++ {
			if got, err := Days(c.y, c.m, d); got != n || err != api.OK {
				t.Fatalf("Days(%d, %d, %d) = %d, %v, want %d", c.y, c.m, d, got, err, n)
			}
			if y, m, got, err := Date(n); y != c.y || m != c.m || got != d || err != api.OK {
				t.Fatalf("Date(%d) = %d, %d, %d, %v, want %d, %d, %d", n, y, m, got, err, c.y, c.m, d)
			}
			if got, err := Weekday(n); got != weekday || err != api.OK {
				t.Fatalf("Weekday(%d) = %d, %v, want %d", n, got, err, weekday)
			}
			text, err := Text(n)
			if err != api.OK {
				t.Fatalf("Text(%d): %v", n, err)
			}
			if got, err := Read(text); got != n || err != api.OK {
				t.Fatalf("Read(%q) = %d, %v, want %d", text, got, err, n)
			}
			weekday, n = (weekday+1)%7, n+1
		}
	}
	if n != 3652059 {
		t.Errorf("there are %d days, want 3652059", n)
	}
}

// P10: every month, and the days beside it.
func TestEveryMonth(t *testing.T) {
	for _, c := range calendar() {
		if got, err := Length(c.y, c.m); got != c.length || err != api.OK {
			t.Fatalf("Length(%d, %d) = %d, %v, want %d", c.y, c.m, got, err, c.length)
		}
		for _, d := range []int{0, c.length + 1} {
			if got, err := Days(c.y, c.m, d); got != 0 || err != api.ErrRange {
				t.Fatalf("Days(%d, %d, %d) = %d, %v", c.y, c.m, d, got, err)
			}
		}
	}
}

// P10: what the document names, told once more as it is known from elsewhere.
func TestKnownDays(t *testing.T) {
	for _, c := range []struct{ y, m, d, n, weekday int }{
		{1, 1, 1, 0, 1},
		{1, 12, 31, 364, 1},
		{4, 2, 29, 1154, 0},
		{1900, 2, 28, 693653, 3},
		{1900, 3, 1, 693654, 4},
		{1970, 1, 1, 719162, 4},
		{2000, 2, 29, 730178, 2},
		{2000, 3, 1, 730179, 3},
		{9999, 12, 31, 3652058, 5},
	} {
		if n, err := Days(c.y, c.m, c.d); n != c.n || err != api.OK {
			t.Errorf("Days(%d, %d, %d) = %d, %v, want %d", c.y, c.m, c.d, n, err, c.n)
		}
		if y, m, d, err := Date(c.n); y != c.y || m != c.m || d != c.d || err != api.OK {
			t.Errorf("Date(%d) = %d, %d, %d, %v", c.n, y, m, d, err)
		}
		if w, err := Weekday(c.n); w != c.weekday || err != api.OK {
			t.Errorf("Weekday(%d) = %d, %v, want %d", c.n, w, err, c.weekday)
		}
	}
	for y, want := range map[int]int{1: 28, 3: 28, 4: 29, 100: 28, 200: 28, 300: 28, 400: 29, 1900: 28, 2000: 29, 2023: 28, 2024: 29, 2100: 28, 9600: 29, 9900: 28, 9996: 29, 9999: 28} {
		if n, err := Length(y, 2); n != want || err != api.OK {
			t.Errorf("Length(%d, 2) = %d, %v, want %d", y, n, err, want)
		}
	}
}

// P10: no year, no month.
func TestNoMonth(t *testing.T) {
	for _, c := range [][2]int{
		{0, 1}, {-1, 1}, {-4, 2}, {10000, 1}, {math.MinInt, 1}, {math.MaxInt, 12},
		{1, 0}, {1, 13}, {1, -1}, {2000, math.MinInt}, {2000, math.MaxInt},
		{0, 0}, {10000, 13}, {math.MinInt, math.MinInt}, {math.MaxInt, math.MaxInt},
	} {
		if n, err := Length(c[0], c[1]); n != 0 || err != api.ErrRange {
			t.Errorf("Length(%d, %d) = %d, %v", c[0], c[1], n, err)
		}
		for _, d := range []int{1, 0, math.MinInt, math.MaxInt} {
			if n, err := Days(c[0], c[1], d); n != 0 || err != api.ErrRange {
				t.Errorf("Days(%d, %d, %d) = %d, %v", c[0], c[1], d, n, err)
			}
		}
	}
}

// P10: no day of a month that there is.
func TestNoDayOfMonth(t *testing.T) {
	for _, c := range [][3]int{
		{1, 1, 0}, {1, 1, 32}, {5, 4, 31}, {1900, 2, 29}, {2000, 2, 30}, {2023, 2, 29}, {2024, 2, 30},
		{9999, 12, 32}, {2000, 1, -1}, {2000, 1, math.MinInt}, {2000, 1, math.MaxInt},
	} {
		if n, err := Days(c[0], c[1], c[2]); n != 0 || err != api.ErrRange {
			t.Errorf("Days(%v) = %d, %v", c, n, err)
		}
	}
}

// P10 and P12: a number that is no day's.
func TestNoDay(t *testing.T) {
	for _, n := range wrongDays {
		if y, m, d, err := Date(n); y != 0 || m != 0 || d != 0 || err != api.ErrRange {
			t.Errorf("Date(%d) = %d, %d, %d, %v", n, y, m, d, err)
		}
		if w, err := Weekday(n); w != 0 || err != api.ErrRange {
			t.Errorf("Weekday(%d) = %d, %v", n, w, err)
		}
		if s, err := Text(n); s != "" || err != api.ErrRange {
			t.Errorf("Text(%d) = %q, %v", n, s, err)
		}
	}
}

// checkAdd holds Add against the calendar that was counted out.
func checkAdd(t *testing.T, all []month, i, d, months int) {
	t.Helper()
	want, wantErr := 0, api.ErrRange
	if to := i + months; to >= 0 && to < len(all) {
		want, wantErr = all[to].first+min(d, all[to].length)-1, api.OK
	}
	if got, err := Add(all[i].first+d-1, months); got != want || err != wantErr {
		t.Fatalf("Add(%d-%d-%d, %d) = %d, %v, want %d, %v", all[i].y, all[i].m, d, months, got, err, want, wantErr)
	}
}

// P11: from the first and the last day of all by every number of months, and from a cut day in the midst.
func TestAddFarFrom(t *testing.T) {
	all := calendar()
	midst := 1999*12 + 1 // February 2000
	for months := -120000; months <= 120000; months++ {
		checkAdd(t, all, 0, 1, months)
		checkAdd(t, all, 0, 31, months)
		checkAdd(t, all, len(all)-1, 1, months)
		checkAdd(t, all, len(all)-1, 31, months)
		checkAdd(t, all, midst, 29, months)
		checkAdd(t, all, midst-1, 31, months)
	}
}

// P11: from every month a little farther and back, for the days that may be cut.
func TestAddFromEveryMonth(t *testing.T) {
	all := calendar()
	for i, c := range all {
		for _, d := range []int{1, 28, c.length} {
			for _, months := range []int{-13, -12, -1, 0, 1, 12, 13, 48} {
				checkAdd(t, all, i, d, months)
			}
		}
	}
}

// P11: days that are cut, and days that are not, as texts.
func TestAddTexts(t *testing.T) {
	for _, c := range []struct {
		from   string
		months int
		to     string
	}{
		{"2024-01-31", 1, "2024-02-29"},
		{"2023-01-31", 1, "2023-02-28"},
		{"2023-01-28", 1, "2023-02-28"},
		{"2024-03-31", -1, "2024-02-29"},
		{"2024-02-29", 12, "2025-02-28"},
		{"2024-02-29", 48, "2028-02-29"},
		{"2000-02-29", -1200, "1900-02-28"},
		{"2000-02-29", 4800, "2400-02-29"},
		{"2024-02-29", 1, "2024-03-29"},
		{"2024-05-31", 1, "2024-06-30"},
		{"2023-12-31", 2, "2024-02-29"},
		{"2024-01-15", -1, "2023-12-15"},
		{"0001-01-01", 0, "0001-01-01"},
		{"0001-01-31", 119987, "9999-12-31"},
		{"9999-12-31", -119987, "0001-01-31"},
	} {
		n, err := Read(c.from)
		if err != api.OK {
			t.Fatal(c, err)
		}
		m, err := Add(n, c.months)
		if err != api.OK {
			t.Fatal(c, err)
		}
		if s, err := Text(m); s != c.to || err != api.OK {
			t.Error(c, s, err)
		}
	}
}

// P11: wrong days and wrong months; a wrong day is told ahead of wrong months, and these ahead of a year that is none.
func TestAddWrong(t *testing.T) {
	wrongMonths := []int{-120001, 120001, math.MinInt, math.MaxInt}
	for _, n := range wrongDays {
		for _, months := range append([]int{0, 1, -120000, 120000}, wrongMonths...) {
			if got, err := Add(n, months); got != 0 || err != api.ErrRange {
				t.Errorf("Add(%d, %d) = %d, %v", n, months, got, err)
			}
		}
	}
	for _, n := range []int{0, 730178, 3652058} {
		for _, months := range wrongMonths {
			if got, err := Add(n, months); got != 0 || err != api.ErrArg {
				t.Errorf("Add(%d, %d) = %d, %v", n, months, got, err)
			}
		}
		for _, months := range []int{-120000, 120000} {
			if got, err := Add(n, months); got != 0 || err != api.ErrRange {
				t.Errorf("Add(%d, %d) = %d, %v", n, months, got, err)
			}
		}
	}
	// The nearest months of which there is no year.
	for _, c := range [][2]int{{0, -1}, {0, -12}, {30, -1}, {0, 119988}, {3652058, 1}, {3652058, -119988}} {
		if got, err := Add(c[0], c[1]); got != 0 || err != api.ErrRange {
			t.Errorf("Add(%d, %d) = %d, %v", c[0], c[1], got, err)
		}
	}
}

// P12: the first and the last day of every month as texts.
func TestTexts(t *testing.T) {
	for _, c := range calendar() {
		for _, d := range []int{1, c.length} {
			want := fmt.Sprintf("%04d-%02d-%02d", c.y, c.m, d)
			if s, err := Text(c.first + d - 1); s != want || err != api.OK {
				t.Fatalf("Text(%d) = %q, %v, want %q", c.first+d-1, s, err, want)
			}
		}
	}
}

// P12: texts of the right form, of which there is no day.
func TestReadNoDay(t *testing.T) {
	for _, s := range []string{"0000-01-01", "0000-00-00", "2024-00-01", "2024-13-01", "2024-99-99", "2024-01-00", "2024-01-32", "2023-02-29", "1900-02-29", "2000-02-30", "9999-12-32"} {
		if n, err := Read(s); n != 0 || err != api.ErrRange {
			t.Errorf("Read(%q) = %d, %v", s, n, err)
		}
	}
}

// P12: texts of another form; the form is told ahead of a day that is none.
func TestReadForm(t *testing.T) {
	for _, s := range []string{
		"", "-", "--", "2024", "2024-01", "2024-1-01", "2024-01-1", "24-01-01", "02024-01-01", "2024-01-011", "2024-001-01", "2024-01-01 ", " 2024-01-01",
		"2024/01/01", "2024-01/01", "20240101", "2024-0101-", "01-01-2024", "202-401-01", "----------", "2024-01--1", "-024-01-01", "+024-01-01", "2024-+1-01", "2024-01-+1",
		"202a-01-01", "2024-a1-01", "2024-01-0 ", "2024-01-0\x00", "2024-01-0_", "0x24-01-01", "0000-0a-00", "2024-13-0a", "9999-99-9",
		"２024-01-01", "２4-01-01", "2024‐01-1", "2024-01-\xff\xff", "2024-01-01\n", "\xef\xbb\xbf2024-01-01",
	} {
		if n, err := Read(s); n != 0 || err != api.ErrForm {
			t.Errorf("Read(%q) = %d, %v", s, n, err)
		}
	}
}

// P12: at every place of a text every other byte.
func TestReadEveryByte(t *testing.T) {
	const good = "2024-02-29"
	for i := range len(good) {
		for c := range 256 {
			b := []byte(good)
			b[i] = byte(c)
			formed := c >= '0' && c <= '9'
			if i == 4 || i == 7 {
				formed = c == '-'
			}
			n, err := Read(string(b))
			if (err == api.ErrForm) == formed || err != api.OK && n != 0 {
				t.Errorf("Read(%q) = %d, %v", b, n, err)
			}
			if s, _ := Text(n); err == api.OK && s != string(b) {
				t.Errorf("Read(%q) = %d, the day %q", b, n, s)
			}
		}
	}
}
