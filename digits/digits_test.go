package digits

import (
	"math"
	"testing"

	"springhouse/api"
)

func TestMay(t *testing.T) {
	for _, n := range []int{0, 1, -1, api.MaxInt, -api.MaxInt} {
		if !May(n) {
			t.Errorf("%d may not", n)
		}
	}
	for _, n := range []int{api.MaxInt + 1, -api.MaxInt - 1, math.MaxInt, math.MinInt} {
		if May(n) {
			t.Errorf("%d may", n)
		}
	}
}

func TestNumber(t *testing.T) {
	for s, want := range map[string]int{"0": 0, "7": 7, "-7": -7, "10": 10, "999999999": 999999999, "-999999999": -999999999} {
		if n, ok := Number(s); n != want || !ok {
			t.Errorf("%q: %d %v", s, n, ok)
		}
	}
	for _, s := range []string{
		"", "-", "+", "-0", "+0", "00", "07", "-07", "+7", "--7", "7-", " 7", "7 ", "7\n", "7x", "0x7", "1_0", "7.0", "1e3", "\x00", "\xff", "٧",
		"1000000000", "-1000000000", "4294967296", "18446744073709551616", "99999999999999999999999999",
	} {
		if n, ok := Number(s); n != 0 || ok {
			t.Errorf("%q: %d %v", s, n, ok)
		}
	}
}
