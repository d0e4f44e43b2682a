package frac_test

import (
	"testing"

	"tidewait/api"
	"tidewait/frac"
)

func TestLowest(t *testing.T) {
	for _, c := range []struct {
		top, bottom int
		want        api.Frac
	}{
		{0, 1, api.Frac{Num: 0, Den: 1}}, {0, 7, api.Frac{Num: 0, Den: 1}},
		{1, 1, api.Frac{Num: 1, Den: 1}}, {-1, 1, api.Frac{Num: -1, Den: 1}},
		{6, 4, api.Frac{Num: 3, Den: 2}}, {-6, 4, api.Frac{Num: -3, Den: 2}},
		{4, 6, api.Frac{Num: 2, Den: 3}}, {-4, 6, api.Frac{Num: -2, Den: 3}},
		{12, 4, api.Frac{Num: 3, Den: 1}}, {-12, 4, api.Frac{Num: -3, Den: 1}},
		{299, 300, api.Frac{Num: 299, Den: 300}}, {-299, 300, api.Frac{Num: -299, Den: 300}},
		{1 << 62, 1 << 62, api.Frac{Num: 1, Den: 1}}, {-1 << 62, 1 << 60, api.Frac{Num: -4, Den: 1}},
	} {
		if got := frac.Lowest(c.top, c.bottom); got != c.want {
			t.Errorf("%d through %d is %v, not %v", c.top, c.bottom, got, c.want)
		}
	}
}

func TestLowestOfAllSmallNumbers(t *testing.T) {
	for top := -60; top <= 60; top++ {
		for bottom := 1; bottom <= 60; bottom++ {
			got := frac.Lowest(top, bottom)
			if got.Den < 1 || got.Num*bottom != top*got.Den {
				t.Errorf("%d through %d is %v, which is not the same", top, bottom, got)
			}
			for common := 2; common <= got.Den; common++ {
				if got.Num%common == 0 && got.Den%common == 0 {
					t.Errorf("%d through %d is %v, and both have %d in them", top, bottom, got, common)
				}
			}
		}
	}
}
