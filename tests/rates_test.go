package tests

import (
	"math"
	"math/rand"
	"slices"
	"testing"

	"loop.example/g00714/impl"
)

func TestRateOk(t *testing.T) {
	const least, greatest = math.MinInt64, math.MaxInt64
	for _, r := range []struct {
		rate impl.Rate
		want bool
	}{
		{impl.Rate{Day: 3, From: 1, To: 0, Num: 9, Den: 10}, true},
		{impl.Rate{Day: 0, From: 0, To: 5, Num: 1, Den: 1}, true},
		{impl.Rate{Day: impl.MaxDay, From: 5, To: 0, Num: 1000000, Den: 1000000}, true},
		{impl.Rate{Day: 3, From: 0, To: 1, Num: 1000000, Den: 1}, true},
		{impl.Rate{Day: 3, From: 0, To: 1, Num: 1, Den: 1000000}, true},
		{impl.Rate{}, false},
		{impl.Rate{Num: 1, Den: 1}, false}, {impl.Rate{From: 5, To: 5, Num: 1, Den: 1}, false},
		{impl.Rate{Day: -1, From: 1, Num: 1, Den: 1}, false}, {impl.Rate{Day: impl.MaxDay + 1, From: 1, Num: 1, Den: 1}, false},
		{impl.Rate{Day: least, From: 1, Num: 1, Den: 1}, false}, {impl.Rate{Day: greatest, From: 1, Num: 1, Den: 1}, false},
		{impl.Rate{From: -1, To: 1, Num: 1, Den: 1}, false}, {impl.Rate{From: 6, To: 1, Num: 1, Den: 1}, false},
		{impl.Rate{From: 1, To: -1, Num: 1, Den: 1}, false}, {impl.Rate{From: 1, To: 6, Num: 1, Den: 1}, false},
		{impl.Rate{From: 6, To: 7, Num: 1, Den: 1}, false}, {impl.Rate{From: least, To: 1, Num: 1, Den: 1}, false}, {impl.Rate{From: 1, To: greatest, Num: 1, Den: 1}, false},
		{impl.Rate{From: 1, Num: 0, Den: 1}, false}, {impl.Rate{From: 1, Num: 1000001, Den: 1}, false}, {impl.Rate{From: 1, Num: -1, Den: 1}, false},
		{impl.Rate{From: 1, Num: 1, Den: 0}, false}, {impl.Rate{From: 1, Num: 1, Den: 1000001}, false}, {impl.Rate{From: 1, Num: 1, Den: -1}, false},
		{impl.Rate{From: 1, Num: -1, Den: -1}, false}, {impl.Rate{From: 1, Num: least, Den: 1}, false}, {impl.Rate{From: 1, Num: greatest, Den: 1}, false},
		{impl.Rate{From: 1, Num: 1, Den: least}, false}, {impl.Rate{From: 1, Num: 1, Den: greatest}, false},
	} {
		if got := impl.RateOk(r.rate); got != r.want {
			t.Errorf("RateOk(%v) = %v", r.rate, got)
		}
		if got := impl.RatesOk([]impl.Rate{r.rate}); got != r.want {
			t.Errorf("RatesOk of %v alone = %v", r.rate, got)
		}
		if l, ok := impl.RateAdded(nil, r.rate); ok != r.want || ok && !slices.Equal(l, []impl.Rate{r.rate}) || !ok && len(l) != 0 {
			t.Errorf("RateAdded of %v = %v, %v", r.rate, l, ok)
		}
	}
}

// ratesOn returns rates from USD to EUR of these days; their Num are 1, 2, 3 ..
func ratesOn(days ...int64) []impl.Rate {
	var l []impl.Rate
	for i, day := range days {
		l = append(l, impl.Rate{Day: day, From: 1, To: 0, Num: int64(i + 1), Den: 10})
	}
	return l
}

func TestRatesOk(t *testing.T) {
	for _, r := range []struct {
		days []int64
		want bool
	}{
		{nil, true}, {[]int64{4}, true}, {[]int64{4, 5, 9}, true}, {[]int64{4, 4, 4}, true}, {[]int64{4, 4, 5, 5}, true}, {[]int64{0, impl.MaxDay}, true},
		{[]int64{5, 4}, false}, {[]int64{4, 5, 4}, false}, {[]int64{4, 3, 9}, false}, {[]int64{1, 2, 3, 3, 2}, false},
		{[]int64{-1, 4}, false}, {[]int64{4, impl.MaxDay + 1}, false},
		{make([]int64, 60), true}, {make([]int64, 61), false}, {make([]int64, 200), false},
	} {
		if got := impl.RatesOk(ratesOn(r.days...)); got != r.want {
			t.Errorf("RatesOk of the days %v = %v", r.days, got)
		}
	}
	for i := range 3 {
		l := ratesOn(4, 5, 6)
		l[i].Den = 0
		if impl.RatesOk(l) {
			t.Errorf("RatesOk with a bad rate %d", i)
		}
	}
	mixed := []impl.Rate{{Day: 3, From: 1, To: 0, Num: 1, Den: 1}, {Day: 5, From: 0, To: 1, Num: 1, Den: 1}, {Day: 4, From: 1, To: 0, Num: 1, Den: 1}}
	if impl.RatesOk(mixed) {
		t.Error("days must not decrease across pairs")
	}
}

func TestRateOn(t *testing.T) {
	l := []impl.Rate{
		{Day: 3, From: 1, To: 0, Num: 9, Den: 10},
		{Day: 3, From: 2, To: 0, Num: 1, Den: 160},
		{Day: 5, From: 1, To: 0, Num: 8, Den: 10},
		{Day: 5, From: 0, To: 1, Num: 5, Den: 4},
		{Day: 5, From: 1, To: 0, Num: 7, Den: 10},
		{Day: 8, From: 1, To: 2, Num: 150, Den: 1},
		{Day: 8, From: 1, To: 0, Num: 6, Den: 10},
	}
	for _, r := range []struct {
		from, to, day int64
		index         int // -1 for none
	}{
		{1, 0, 2, -1}, {1, 0, 3, 0}, {1, 0, 4, 0}, {1, 0, 5, 4}, {1, 0, 6, 4}, {1, 0, 7, 4}, {1, 0, 8, 6}, {1, 0, 9, 6}, {1, 0, impl.MaxDay, 6},
		{2, 0, 2, -1}, {2, 0, 3, 1}, {2, 0, 99, 1}, {0, 2, 99, -1},
		{0, 1, 4, -1}, {0, 1, 5, 3}, {0, 1, 99, 3},
		{1, 2, 7, -1}, {1, 2, 8, 5}, {2, 1, 99, -1},
		{0, 0, 99, -1}, {1, 1, 99, -1}, {4, 5, 99, -1}, {-1, 0, 99, -1}, {1, 6, 99, -1}, {math.MinInt64, math.MaxInt64, 99, -1},
		{1, 0, -1, -1}, {1, 0, math.MinInt64, -1},
		// The chapter asks only that Day is at most this number, which need not be a day.
		{1, 0, impl.MaxDay + 1, 6}, {1, 0, math.MaxInt64, 6},
	} {
		want, wantOk := impl.Rate{}, r.index >= 0
		if wantOk {
			want = l[r.index]
		}
		if got, ok := impl.RateOn(l, r.from, r.to, r.day); got != want || ok != wantOk {
			t.Errorf("RateOn(%d, %d, %d) = %v, %v; want %v, %v", r.from, r.to, r.day, got, ok, want, wantOk)
		}
	}
	if r, ok := impl.RateOn(nil, 1, 0, 4); ok || r != (impl.Rate{}) {
		t.Error("without rates:", r, ok)
	}
}

func TestRateOnLimits(t *testing.T) {
	l := ratesOn(slices.Repeat([]int64{4}, 60)...)
	if r, ok := impl.RateOn(l, 1, 0, 4); !ok || r.Num != 60 {
		t.Error("60 rates of one day:", r, ok)
	}
	// The first of the rates would be the one asked for; that another one is not valid rejects them all.
	invalid := [][]impl.Rate{ratesOn(make([]int64, 61)...), ratesOn(5, 4), ratesOn(-1, 4), ratesOn(3, impl.MaxDay+1)}
	bad := ratesOn(3, 9)
	bad[1].To = 1
	for i, l := range append(invalid, bad) {
		if r, ok := impl.RateOn(l, 1, 0, 5); ok || r != (impl.Rate{}) {
			t.Errorf("%d: RateOn = %v, %v", i, r, ok)
		}
		if n, ok := impl.Converted(l, 100, 1, 0, 5); ok || n != 0 {
			t.Errorf("%d: Converted = %d, %v", i, n, ok)
		}
		if n, ok := impl.Converted(l, 100, 1, 1, 5); ok || n != 0 {
			t.Errorf("%d: Converted to the same currency = %d, %v", i, n, ok)
		}
		if m, ok := impl.RateAdded(l, impl.Rate{Day: impl.MaxDay, From: 1, To: 0, Num: 1, Den: 1}); ok || len(m) != 0 {
			t.Errorf("%d: RateAdded = %v, %v", i, m, ok)
		}
	}
}

func TestRateAdded(t *testing.T) {
	for _, r := range []struct {
		days []int64
		day  int64
		want bool
	}{
		{nil, 0, true}, {nil, impl.MaxDay, true}, {[]int64{4}, 4, true}, {[]int64{4}, 5, true}, {[]int64{4}, 3, false}, {[]int64{3, 9}, 8, false}, {[]int64{3, 9}, 9, true},
		{[]int64{4}, impl.MaxDay + 1, false}, {nil, -1, false},
		{make([]int64, 58), 0, true}, {make([]int64, 59), 0, true}, {make([]int64, 60), 0, false}, {make([]int64, 60), 7, false}, {make([]int64, 61), 7, false},
	} {
		l, rate := ratesOn(r.days...), impl.Rate{Day: r.day, From: 4, To: 5, Num: 2, Den: 3}
		got, ok := impl.RateAdded(l, rate)
		if ok != r.want || ok && !slices.Equal(got, append(l, rate)) || !ok && len(got) != 0 {
			t.Errorf("RateAdded of day %d to the days %v = %v, %v", r.day, r.days, got, ok)
		}
	}
	for _, rate := range []impl.Rate{{}, {Day: 5, From: 1, To: 1, Num: 1, Den: 1}, {Day: 5, From: 1, To: 0, Num: 0, Den: 1}, {Day: 5, From: 1, To: 0, Num: 1, Den: 1000001}, {Day: 5, From: 6, To: 0, Num: 1, Den: 1}} {
		if l, ok := impl.RateAdded(ratesOn(4), rate); ok || len(l) != 0 {
			t.Errorf("RateAdded of %v = %v, %v", rate, l, ok)
		}
	}
}

func TestConverted(t *testing.T) {
	l := []impl.Rate{
		{Day: 3, From: 1, To: 0, Num: 9, Den: 10},
		{Day: 5, From: 1, To: 0, Num: 8, Den: 10},
		{Day: 5, From: 2, To: 0, Num: 1, Den: 160},
		{Day: 6, From: 0, To: 4, Num: 1000000, Den: 1},
		{Day: 6, From: 0, To: 3, Num: 1, Den: 1000000},
		{Day: 6, From: 5, To: 0, Num: 3, Den: 2},
	}
	for _, r := range []struct {
		n, from, to, day, want int64
		ok                     bool
	}{
		{1000, 1, 0, 3, 900, true}, {1000, 1, 0, 4, 900, true}, {1000, 1, 0, 5, 800, true}, {1000, 1, 0, 99, 800, true}, {1000, 1, 0, 2, 0, false}, {1000, 1, 0, -1, 0, false},
		{-1000, 1, 0, 4, -900, true}, {0, 1, 0, 4, 0, true}, {most, 1, 0, 4, 900000000000, true}, {-most, 1, 0, 4, -900000000000, true},
		// ties to even
		{80, 2, 0, 9, 0, true}, {240, 2, 0, 9, 2, true}, {400, 2, 0, 9, 2, true}, {-5, 1, 0, 4, -4, true}, {5, 1, 0, 4, 4, true}, {-240, 2, 0, 9, -2, true},
		// one way alone, and not by way of a third currency
		{1000, 0, 1, 99, 0, false}, {1000, 0, 2, 99, 0, false}, {1000, 1, 4, 99, 0, false}, {1000, 2, 1, 99, 0, false}, {0, 0, 1, 99, 0, false},
		// the result of MulDiv must be an amount
		{1000000, 0, 4, 6, most, true}, {1000001, 0, 4, 6, 0, false}, {-1000001, 0, 4, 6, 0, false}, {most, 0, 4, 6, 0, false},
		{most, 0, 3, 6, 1000000, true}, {1, 0, 3, 6, 0, true}, {666666666667, 5, 0, 6, most, true}, {666666666668, 5, 0, 6, 0, false},
		// not an amount, or not a currency
		{most + 1, 1, 0, 4, 0, false}, {-most - 1, 1, 0, 4, 0, false}, {most + 1, 0, 3, 6, 0, false}, {math.MinInt64, 1, 0, 4, 0, false}, {math.MaxInt64, 1, 0, 4, 0, false},
		{1, -1, 0, 9, 0, false}, {1, 6, 0, 9, 0, false}, {1, 1, -1, 9, 0, false}, {1, 1, 6, 9, 0, false}, {1, math.MinInt64, 0, 9, 0, false}, {1, 1, math.MaxInt64, 9, 0, false},
	} {
		if n, ok := impl.Converted(l, r.n, r.from, r.to, r.day); n != r.want || ok != r.ok {
			t.Errorf("Converted(%d, %d, %d, %d) = %d, %v; want %d, %v", r.n, r.from, r.to, r.day, n, ok, r.want, r.ok)
		}
	}
}

func TestConvertedToSameCurrency(t *testing.T) {
	for cur := range int64(6) {
		for _, n := range []int64{0, 1, -1, 77, most, -most} {
			for _, l := range [][]impl.Rate{nil, ratesOn(3, 5)} {
				// A rate is not needed, so that the day does not matter.
				for _, day := range []int64{0, 4, impl.MaxDay, -1, impl.MaxDay + 1} {
					if got, ok := impl.Converted(l, n, cur, cur, day); got != n || !ok {
						t.Errorf("Converted(%d, %d, %d, %d) = %d, %v", n, cur, cur, day, got, ok)
					}
				}
			}
		}
		for _, n := range []int64{most + 1, -most - 1, math.MinInt64, math.MaxInt64} {
			if got, ok := impl.Converted(nil, n, cur, cur, 4); got != 0 || ok {
				t.Errorf("Converted(%d, %d, %d) = %d, %v", n, cur, cur, got, ok)
			}
		}
	}
	for _, cur := range []int64{-1, 6, math.MinInt64, math.MaxInt64} {
		if got, ok := impl.Converted(nil, 5, cur, cur, 4); got != 0 || ok {
			t.Errorf("Converted(5, %d, %d) = %d, %v", cur, cur, got, ok)
		}
	}
}

func TestConvertedWithoutRates(t *testing.T) {
	for from := range int64(6) {
		for to := range int64(6) {
			n, ok := impl.Converted(nil, 5, from, to, 4)
			if ok != (from == to) || ok && n != 5 || !ok && n != 0 {
				t.Errorf("Converted(5, %d, %d) = %d, %v", from, to, n, ok)
			}
		}
	}
}

// TestAddedRateCounts adds random rates and compares, for each pair and each day, the rates before with those after.
func TestAddedRateCounts(t *testing.T) {
	source := rand.New(rand.NewSource(7))
	for range 30 {
		var l []impl.Rate
		day := int64(0)
		for range impl.MaxRates {
			day += source.Int63n(3)
			r := impl.Rate{Day: day, From: source.Int63n(3), Num: source.Int63n(1000000) + 1, Den: source.Int63n(1000000) + 1}
			r.To = (r.From + source.Int63n(2) + 1) % 3
			next, ok := impl.RateAdded(l, r)
			if !ok {
				t.Fatalf("RateAdded(%v, %v) returns false", l, r)
			}
			checkAddedRate(t, l, next, r)
			l = next
		}
	}
}

func checkAddedRate(t *testing.T, l, next []impl.Rate, r impl.Rate) {
	t.Helper()
	for from := range int64(3) {
		for to := range int64(3) {
			for day := max(0, r.Day-3); day <= r.Day+3; day++ {
				want, wantOk := impl.RateOn(l, from, to, day)
				if from == r.From && to == r.To && day >= r.Day {
					want, wantOk = r, true
				}
				if got, ok := impl.RateOn(next, from, to, day); got != want || ok != wantOk {
					t.Fatalf("RateOn(%d, %d, %d) after adding %v to %v = %v, %v", from, to, day, r, l, got, ok)
				}
				checkConverted(t, next, from, to, day, want, wantOk)
			}
		}
	}
}

func checkConverted(t *testing.T, l []impl.Rate, from, to, day int64, r impl.Rate, ok bool) {
	t.Helper()
	const n = 123456
	want := int64(n)
	if from == to {
		ok = true
	} else if ok {
		want, ok = exactMulDiv(n, r.Num, r.Den)
	}
	if !ok {
		want = 0
	}
	if got, gotOk := impl.Converted(l, n, from, to, day); got != want || gotOk != ok {
		t.Fatalf("Converted(%v, %d, %d, %d, %d) = %d, %v; want %d, %v", l, int64(n), from, to, day, got, gotOk, want, ok)
	}
}

func TestRatesLeaveTheirArguments(t *testing.T) {
	memory := ratesOn(3, 5, 77, 78)
	before := slices.Clone(memory)
	l, added := memory[:2], impl.Rate{Day: 6, From: 1, To: 0, Num: 99, Den: 1}
	first, ok := impl.RateAdded(l, added)
	second, okAgain := impl.RateAdded(l, added)
	impl.RateAdded(l, impl.Rate{})
	impl.RatesOk(l)
	impl.RateOn(l, 1, 0, 4)
	impl.Converted(l, 5, 1, 0, 4)
	if !slices.Equal(memory, before) {
		t.Fatal("the rates changed:", memory)
	}
	if !ok || !okAgain || !slices.Equal(first, second) {
		t.Fatal("equal arguments:", first, second)
	}
	all := first[:cap(first)]
	for i := range all {
		all[i] = impl.Rate{Day: -9}
	}
	if !slices.Equal(memory, before) || second[0].Day == -9 || second[2] != added {
		t.Fatal("the result is not new memory:", memory, second)
	}
}
