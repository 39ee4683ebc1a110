package numeral

import (
	"math/big"
	"math/rand"
	"strconv"
	"strings"
	"testing"
)

func TestDigits(t *testing.T) {
	for s, want := range map[string]int64{
		"0": 0, "7": 7, "10": 10, "007": 7, "00": 0, "9999": 9999,
		"9223372036854775807":                          1<<63 - 1,
		strings.Repeat("0", 50) + "1":                  1,
		strings.Repeat("0", 9) + "9223372036854775807": 1<<63 - 1,
	} {
		if n, ok := Digits(s); n != want || !ok {
			t.Error(s, n, ok)
		}
	}
}

func TestPlain(t *testing.T) {
	for _, want := range []int64{0, 1, 9, 10, 99, 100, 1 << 40, 1<<63 - 1} {
		s := strconv.FormatInt(want, 10)
		if n, ok := Plain(s); n != want || !ok {
			t.Error(s, n, ok)
		}
		if n, ok := Plain("0" + s); n != 0 || ok {
			t.Error("0"+s, n, ok)
		}
	}
}

func TestWrong(t *testing.T) {
	for _, s := range []string{"", "-", "-1", "+1", " 1", "1 ", "1_0", "0x1", "a", "1a", "/", ":", "1.", "１", "\x00", "\xff", "9223372036854775808", "9223372036854775810", "9999999999999999999", "10000000000000000000", "18446744073709551616", "18446744073709551617", strings.Repeat("9", 100)} {
		if n, ok := Digits(s); n != 0 || ok {
			t.Error(s, n, ok)
		}
		if n, ok := Plain(s); n != 0 || ok {
			t.Error(s, n, ok)
		}
	}
}

// Any row of digits near the greatest number, against numbers without a bound.
func TestAny(t *testing.T) {
	r := rand.New(rand.NewSource(1))
	for range 100000 {
		s := make([]byte, 1+r.Intn(21))
		for i := range s {
			s[i] = "0123456789"[r.Intn(10)]
		}
		if r.Intn(2) == 0 {
			copy(s, "92233720368547758")
		}
		want, _ := new(big.Int).SetString(string(s), 10)
		n, ok := Digits(string(s))
		if ok != want.IsInt64() || ok && n != want.Int64() || !ok && n != 0 {
			t.Fatal(string(s), n, ok)
		}
		m, plain := Plain(string(s))
		if canonical := ok && want.String() == string(s); plain != canonical || canonical && m != n {
			t.Fatal(string(s), m, plain)
		}
	}
}
