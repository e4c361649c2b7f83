package tests

import (
	"math"
	"math/rand"
	"slices"
	"testing"

	"loop.example/g00714/impl"
)

// partFields are P, I and F of a Part, each with what was paid of it.
var partFields = []struct {
	name        string
	whole, paid func(*impl.Part) *int64
}{
	{"P", func(p *impl.Part) *int64 { return &p.P }, func(p *impl.Part) *int64 { return &p.PaidP }},
	{"I", func(p *impl.Part) *int64 { return &p.I }, func(p *impl.Part) *int64 { return &p.PaidI }},
	{"F", func(p *impl.Part) *int64 { return &p.F }, func(p *impl.Part) *int64 { return &p.PaidF }},
}

// threeParts is a plan with every field different, of which the Part 0 is completely paid.
func threeParts() []impl.Part {
	return []impl.Part{
		{Due: 100, P: 300, I: 30, F: 3, PaidP: 300, PaidI: 30, PaidF: 3},
		{Due: 130, P: 200, I: 20, F: 5, PaidP: 40, PaidI: 20, PaidF: 5},
		{Due: 160, P: 100, I: 10, F: 0},
	}
}

// partsOn returns a plan with these days Due and nothing else.
func partsOn(days ...int64) []impl.Part {
	l := make([]impl.Part, len(days))
	for i, day := range days {
		l[i].Due = day
	}
	return l
}

// daysUpTo returns the days 0 .. n-1.
func daysUpTo(n int64) []int64 {
	var days []int64
	for day := range n {
		days = append(days, day)
	}
	return days
}

func TestPlanOkDays(t *testing.T) {
	for _, r := range []struct {
		days []int64
		want bool
	}{
		{nil, true}, {[]int64{}, true}, {[]int64{0}, true}, {[]int64{impl.MaxDay}, true}, {[]int64{0, impl.MaxDay}, true}, {[]int64{5, 6}, true}, {[]int64{5, 6, 99}, true},
		{[]int64{5, 5}, false}, {[]int64{0, 0}, false}, {[]int64{6, 5}, false}, {[]int64{5, 6, 6}, false}, {[]int64{5, 5, 6}, false}, {[]int64{5, 9, 6}, false}, {[]int64{5, 9, 5}, false}, {[]int64{9, 5, 10}, false},
		{[]int64{-1}, false}, {[]int64{-1, 5}, false}, {[]int64{impl.MaxDay + 1}, false}, {[]int64{5, impl.MaxDay + 1}, false}, {[]int64{impl.MaxDay, impl.MaxDay + 1}, false},
		{[]int64{math.MinInt64}, false}, {[]int64{math.MaxInt64}, false}, {[]int64{math.MinInt64, math.MaxInt64}, false},
		{daysUpTo(23), true}, {daysUpTo(24), true}, {daysUpTo(25), false}, {daysUpTo(100), false},
	} {
		if got := impl.PlanOk(partsOn(r.days...)); got != r.want {
			t.Errorf("PlanOk with the days %v = %v", r.days, got)
		}
	}
}

func TestPlanOkFields(t *testing.T) {
	for _, f := range partFields {
		for _, r := range []struct {
			whole, paid int64
			want        bool
		}{
			{0, 0, true}, {1, 0, true}, {1, 1, true}, {7, 3, true}, {most, 0, true}, {most, most - 1, true}, {most, most, true},
			{0, 1, false}, {1, 2, false}, {0, -1, false}, {7, -1, false}, {most, most + 1, false}, {most, -1, false},
			{most + 1, 0, false}, {most + 1, most, false}, {most + 1, most + 1, false}, {-1, 0, false}, {-1, -1, false}, {-1, -2, false},
			{math.MinInt64, 0, false}, {math.MaxInt64, 0, false}, {math.MinInt64, math.MinInt64, false}, {math.MaxInt64, math.MaxInt64, false},
			{7, math.MinInt64, false}, {7, math.MaxInt64, false},
		} {
			for i := range 3 {
				l := threeParts()
				*f.whole(&l[i]), *f.paid(&l[i]) = r.whole, r.paid
				if got := impl.PlanOk(l); got != r.want {
					t.Errorf("PlanOk with %d of %s %d paid in the Part %d = %v", r.paid, f.name, r.whole, i, got)
				}
			}
		}
	}
}

// fullPart has every field at its greatest value.
func fullPart(due int64) impl.Part {
	return impl.Part{Due: due, P: most, I: most, F: most, PaidP: most, PaidI: most, PaidF: most}
}

// greatPlan has MaxParts Parts of which everything is paid and as great as possible.
func greatPlan() []impl.Part {
	var l []impl.Part
	for due := range int64(impl.MaxParts) {
		l = append(l, fullPart(due))
	}
	return l
}

func TestSumsOf(t *testing.T) {
	for i, r := range []struct {
		l    []impl.Part
		want impl.Part
	}{
		{nil, impl.Part{}},
		{partsOn(5, 6), impl.Part{}},
		{threeParts()[:1], impl.Part{P: 300, I: 30, F: 3, PaidP: 300, PaidI: 30, PaidF: 3}},
		{threeParts(), impl.Part{P: 600, I: 60, F: 8, PaidP: 340, PaidI: 50, PaidF: 8}},
		{greatPlan(), impl.Part{P: 24 * most, I: 24 * most, F: 24 * most, PaidP: 24 * most, PaidI: 24 * most, PaidF: 24 * most}},
	} {
		if got := impl.SumsOf(r.l); got != r.want {
			t.Errorf("%d: SumsOf = %v; want %v", i, got, r.want)
		}
	}
}

// invalidPlans returns plans that differ from a valid one in one respect each.
func invalidPlans() [][]impl.Part {
	list := [][]impl.Part{
		append(greatPlan(), fullPart(impl.MaxDay)),
		partsOn(daysUpTo(25)...),
		{{Due: 100, P: 3}, {Due: 100, P: 4}},
		{{Due: 100, P: 3}, {Due: 99, P: 4}},
		{{Due: -1, P: 3}, {Due: 99, P: 4}},
		{{Due: 99, P: 3}, {Due: impl.MaxDay + 1, P: 4}},
	}
	for _, f := range partFields {
		for i := range 3 {
			negative, great, over, under := threeParts(), threeParts(), threeParts(), threeParts()
			*f.whole(&negative[i]), *f.paid(&negative[i]) = -1, -1
			*f.whole(&great[i]) = most + 1
			*f.paid(&over[i]) = *f.whole(&over[i]) + 1
			*f.paid(&under[i]) = -1
			list = append(list, negative, great, over, under)
		}
	}
	return list
}

func TestInvalidPlans(t *testing.T) {
	for i, l := range invalidPlans() {
		if impl.PlanOk(l) {
			t.Errorf("%d: PlanOk(%v)", i, l)
		}
		if s := impl.SumsOf(l); s != (impl.Part{}) {
			t.Errorf("%d: SumsOf = %v", i, s)
		}
		for _, n := range []int64{0, 1, 1000} {
			checkNoPayPlan(t, l, n)
			checkNoDecrease(t, l, n)
		}
		checkNoLateFees(t, l, 200, 500, 5)
		checkNoLateFees(t, l, 0, 0, 0)
		checkNoPayoff(t, l, 120)
	}
}

func checkNoPayPlan(t *testing.T, l []impl.Part, n int64) {
	t.Helper()
	if m, paid, left := impl.PayPlan(l, n); len(m) != 0 || paid != (impl.Part{}) || left != 0 {
		t.Errorf("PayPlan(%v, %d) = %v, %v, %d", l, n, m, paid, left)
	}
}

func checkNoDecrease(t *testing.T, l []impl.Part, n int64) {
	t.Helper()
	if m, left := impl.CutPlan(l, n); len(m) != 0 || left != 0 {
		t.Errorf("CutPlan(%v, %d) = %v, %d", l, n, m, left)
	}
	if m, left := impl.BackPlan(l, n); len(m) != 0 || left != 0 {
		t.Errorf("BackPlan(%v, %d) = %v, %d", l, n, m, left)
	}
}

func checkNoLateFees(t *testing.T, l []impl.Part, day, fee, grace int64) {
	t.Helper()
	if m, sum := impl.LateFees(l, day, fee, grace); len(m) != 0 || sum != 0 {
		t.Errorf("LateFees(%v, %d, %d, %d) = %v, %d", l, day, fee, grace, m, sum)
	}
}

func checkNoPayoff(t *testing.T, l []impl.Part, day int64) {
	t.Helper()
	if n := impl.PayoffOf(l, day); n != -1 {
		t.Errorf("PayoffOf(%v, %d) = %d", l, day, n)
	}
	if m, sum := impl.PaidOff(l, day); len(m) != 0 || sum != 0 {
		t.Errorf("PaidOff(%v, %d) = %v, %d", l, day, m, sum)
	}
}

func TestInvalidNumbersOfPlans(t *testing.T) {
	const least, greatest = math.MinInt64, math.MaxInt64
	for _, l := range [][]impl.Part{nil, threeParts(), greatPlan()} {
		for _, n := range []int64{-1, most + 1, least, greatest} {
			checkNoPayPlan(t, l, n)
			checkNoDecrease(t, l, n)
		}
		for _, day := range []int64{-1, impl.MaxDay + 1, least, greatest} {
			checkNoPayoff(t, l, day)
			checkNoLateFees(t, l, day, 500, 5)
		}
		for _, fee := range []int64{-1, 100001, least, greatest} {
			checkNoLateFees(t, l, 200, fee, 5)
		}
		for _, grace := range []int64{-1, 61, least, greatest} {
			checkNoLateFees(t, l, 200, 500, grace)
		}
	}
}

func TestPlanMade(t *testing.T) {
	day := dayOf(t, "2026-01-31")
	for _, r := range []struct {
		total, n, rate int64
		p, i           []int64
	}{
		{10000, 3, 1200, []int64{3334, 3333, 3333}, []int64{100, 100, 100}},
		{10000, 1, 1200, []int64{10000}, []int64{100}},
		{10001, 2, 0, []int64{5001, 5000}, []int64{0, 0}},
		{10000, 4, 1000, []int64{2500, 2500, 2500, 2500}, []int64{84, 83, 83, 83}},
		{1, 3, 10000, []int64{1, 0, 0}, []int64{0, 0, 0}},
		{2, 3, 10000, []int64{1, 1, 0}, []int64{0, 0, 0}},
		{20, 3, 10000, []int64{7, 7, 6}, []int64{2, 2, 1}},
		// interest of a half, one and a half, and two and a half is rounded to the even neighbour
		{6, 1, 10000, []int64{6}, []int64{0}}, {18, 1, 10000, []int64{18}, []int64{2}}, {30, 1, 10000, []int64{30}, []int64{2}},
		{most, 12, 10000, slices.Concat(slices.Repeat([]int64{83333333334}, 4), slices.Repeat([]int64{83333333333}, 8)), slices.Concat(slices.Repeat([]int64{83333333334}, 4), slices.Repeat([]int64{83333333333}, 8))},
	} {
		var want []impl.Part
		for i, due := range impl.DueDays(day, r.n) {
			want = append(want, impl.Part{Due: due, P: r.p[i], I: r.i[i]})
		}
		if l, ok := impl.PlanMade(r.total, r.n, day, r.rate); !ok || !slices.Equal(l, want) {
			t.Errorf("PlanMade(%d, %d, %d, %d) = %v, %v; want %v", r.total, r.n, day, r.rate, l, ok, want)
		}
	}
}

func TestPlanMadeLimits(t *testing.T) {
	const least, greatest = math.MinInt64, math.MaxInt64
	last := dayOf(t, "2241-10-17") // of which 24 months later is MaxDay
	for _, r := range []struct {
		total, n, day, rate int64
		want                bool
	}{
		{1, 1, 0, 0, true}, {1, 24, 0, 10000, true}, {most, 1, 0, 0, true}, {most, 24, last, 0, true}, {1, 24, last, 10000, true}, {most, 1, 0, 10000, true},
		{0, 3, 0, 0, false}, {-1, 3, 0, 0, false}, {most + 1, 3, 0, 0, false}, {least, 3, 0, 0, false}, {greatest, 3, 0, 0, false},
		{5, 0, 0, 0, false}, {5, -1, 0, 0, false}, {5, 25, 0, 0, false}, {5, least, 0, 0, false}, {5, greatest, 0, 0, false}, {5, greatest, 0, 10000, false}, {5, 1 << 62, 0, 4, false},
		{5, 3, -1, 0, false}, {5, 3, impl.MaxDay, 0, false}, {5, 1, impl.MaxDay, 0, false}, {5, 3, impl.MaxDay + 1, 0, false}, {5, 3, least, 0, false}, {5, 3, greatest, 0, false},
		{5, 24, last + 1, 0, false}, {5, 23, last + 1, 0, true}, {5, 1, dayOf(t, "2243-09-17"), 0, true}, {5, 1, dayOf(t, "2243-09-18"), 0, false},
		{5, 3, 0, -1, false}, {5, 3, 0, 10001, false}, {5, 3, 0, least, false}, {5, 3, 0, greatest, false},
		// MulDiv returns false if the interest is more than an amount
		{most, 12, 0, 10000, true}, {most, 13, 0, 10000, false}, {most, 24, 0, 5000, true}, {most, 24, 0, 5001, false}, {most, 24, 0, 10000, false},
		{most / 2, 24, 0, 10000, true}, {most/2 + 1, 24, 0, 10000, false},
	} {
		l, ok := impl.PlanMade(r.total, r.n, r.day, r.rate)
		if ok != r.want || !ok && len(l) != 0 || ok && int64(len(l)) != r.n {
			t.Errorf("PlanMade(%d, %d, %d, %d) = %v, %v", r.total, r.n, r.day, r.rate, l, ok)
		}
	}
}

// TestPlanMadeIsWhole checks the first part of promise 5.
func TestPlanMadeIsWhole(t *testing.T) {
	source := rand.New(rand.NewSource(11))
	for range 5000 {
		total, n, day, rate := 1+randomUpTo(source, most-1), 1+source.Int63n(24), source.Int63n(90000), source.Int63n(10001)
		interest, whole := exactMulDiv(total, rate*n, 120000)
		l, ok := impl.PlanMade(total, n, day, rate)
		if ok != whole {
			t.Fatalf("PlanMade(%d, %d, %d, %d) = %v, %v", total, n, day, rate, l, ok)
		}
		if !ok {
			continue
		}
		if s := impl.SumsOf(l); !impl.PlanOk(l) || s != (impl.Part{P: total, I: interest}) {
			t.Fatalf("PlanMade(%d, %d, %d, %d) = %v with the sums %v", total, n, day, rate, l, s)
		}
		for i, p := range l {
			if p.Due != impl.MonthsOn(day, int64(i)+1) || p.P > l[0].P || p.P < l[0].P-1 || p.I > l[0].I || p.I < l[0].I-1 {
				t.Fatalf("PlanMade(%d, %d, %d, %d) = %v", total, n, day, rate, l)
			}
		}
	}
}

func TestPayPlan(t *testing.T) {
	l := []impl.Part{
		{Due: 100, P: 300, I: 30, F: 3, PaidP: 300, PaidI: 30, PaidF: 3},
		{Due: 130, P: 200, I: 20, F: 5, PaidP: 40, PaidI: 8, PaidF: 1},
		{Due: 160, P: 0, I: 0, F: 0},
		{Due: 190, P: 100, I: 10, F: 7},
	}
	for _, r := range []struct {
		n                    int64
		second, fourth, paid impl.Part
		left                 int64
	}{
		{n: 0},
		{n: 1, second: impl.Part{PaidF: 1}},
		{n: 4, second: impl.Part{PaidF: 4}},
		{n: 5, second: impl.Part{PaidF: 4, PaidI: 1}},
		{n: 16, second: impl.Part{PaidF: 4, PaidI: 12}},
		{n: 17, second: impl.Part{PaidF: 4, PaidI: 12, PaidP: 1}},
		{n: 176, second: impl.Part{PaidF: 4, PaidI: 12, PaidP: 160}},
		{n: 177, second: impl.Part{PaidF: 4, PaidI: 12, PaidP: 160}, fourth: impl.Part{PaidF: 1}},
		{n: 190, second: impl.Part{PaidF: 4, PaidI: 12, PaidP: 160}, fourth: impl.Part{PaidF: 7, PaidI: 7}},
		{n: 292, second: impl.Part{PaidF: 4, PaidI: 12, PaidP: 160}, fourth: impl.Part{PaidF: 7, PaidI: 10, PaidP: 99}},
		{n: 293, second: impl.Part{PaidF: 4, PaidI: 12, PaidP: 160}, fourth: impl.Part{PaidF: 7, PaidI: 10, PaidP: 100}},
		{n: 294, second: impl.Part{PaidF: 4, PaidI: 12, PaidP: 160}, fourth: impl.Part{PaidF: 7, PaidI: 10, PaidP: 100}, left: 1},
		{n: most, second: impl.Part{PaidF: 4, PaidI: 12, PaidP: 160}, fourth: impl.Part{PaidF: 7, PaidI: 10, PaidP: 100}, left: most - 293},
	} {
		want := slices.Clone(l)
		for i, p := range map[int]impl.Part{1: r.second, 3: r.fourth} {
			want[i].PaidP += p.PaidP
			want[i].PaidI += p.PaidI
			want[i].PaidF += p.PaidF
		}
		all := impl.Part{PaidP: r.second.PaidP + r.fourth.PaidP, PaidI: r.second.PaidI + r.fourth.PaidI, PaidF: r.second.PaidF + r.fourth.PaidF}
		if m, paid, left := impl.PayPlan(l, r.n); !slices.Equal(m, want) || paid != all || left != r.left {
			t.Errorf("PayPlan of %d = %v, %v, %d; want %v, %v, %d", r.n, m, paid, left, want, all, r.left)
		}
	}
}

func TestPayPlanLimits(t *testing.T) {
	for _, n := range []int64{0, 1, most} {
		if m, paid, left := impl.PayPlan(nil, n); len(m) != 0 || paid != (impl.Part{}) || left != n {
			t.Errorf("PayPlan of the empty plan and %d = %v, %v, %d", n, m, paid, left)
		}
		if m, paid, left := impl.PayPlan(greatPlan(), n); !slices.Equal(m, greatPlan()) || paid != (impl.Part{}) || left != n {
			t.Errorf("PayPlan of a paid plan and %d = %v, %v, %d", n, m, paid, left)
		}
	}
	l := make([]impl.Part, impl.MaxParts)
	for i := range l {
		l[i] = impl.Part{Due: int64(i), P: most, I: most, F: most}
	}
	m, paid, left := impl.PayPlan(l, most)
	l[0].PaidF = most
	if !slices.Equal(m, l) || paid != (impl.Part{PaidF: most}) || left != 0 {
		t.Errorf("PayPlan of the greatest plan = %v, %v, %d", m, paid, left)
	}
}

func TestLateFees(t *testing.T) {
	open := impl.Part{Due: 100, P: 50, I: 5}
	for _, r := range []struct {
		name            string
		p               impl.Part
		day, fee, grace int64
		late            bool
	}{
		{"before Due", open, 99, 500, 0, false}, {"on Due", open, 100, 500, 0, false}, {"after Due", open, 101, 500, 0, true},
		{"on Due plus grace", open, 105, 500, 5, false}, {"a day later", open, 106, 500, 5, true}, {"much later", open, impl.MaxDay, 500, 5, true},
		{"on the last day of grace", open, 160, 500, 60, false}, {"behind it", open, 161, 500, 60, true},
		{"the greatest fee", open, 161, 100000, 60, true}, {"the least fee", open, 161, 1, 60, true}, {"no fee", open, 161, 0, 60, true},
		{"only price unpaid", impl.Part{Due: 100, P: 50, I: 5, PaidP: 49, PaidI: 5}, 106, 500, 5, true},
		{"only interest unpaid", impl.Part{Due: 100, P: 50, I: 5, PaidP: 50, PaidI: 4}, 106, 500, 5, true},
		{"completely paid", impl.Part{Due: 100, P: 50, I: 5, PaidP: 50, PaidI: 5}, 106, 500, 5, false},
		{"nothing to pay", impl.Part{Due: 100}, 106, 500, 5, false},
		{"only interest to pay", impl.Part{Due: 100, I: 5}, 106, 500, 5, true},
		{"a fee already", impl.Part{Due: 100, P: 50, I: 5, F: 1}, 106, 500, 5, false},
		{"a paid fee", impl.Part{Due: 100, P: 50, I: 5, F: 9, PaidF: 9}, 106, 500, 5, false},
		{"only a fee unpaid", impl.Part{Due: 100, P: 50, I: 5, F: 9, PaidP: 50, PaidI: 5}, 106, 500, 5, false},
		{"day 0", impl.Part{Due: 0, P: 1}, 0, 500, 0, false}, {"day 1", impl.Part{Due: 0, P: 1}, 1, 500, 0, true},
		{"Due on the last day", impl.Part{Due: impl.MaxDay, P: 1}, impl.MaxDay, 500, 0, false},
		{"grace beyond the last day", impl.Part{Due: impl.MaxDay - 1, P: 1}, impl.MaxDay, 500, 60, false},
		{"a day before the last day", impl.Part{Due: impl.MaxDay - 1, P: 1}, impl.MaxDay, 500, 0, true},
	} {
		want, fees := r.p, int64(0)
		if r.late {
			want.F, fees = r.fee, r.fee
		}
		if l, sum := impl.LateFees([]impl.Part{r.p}, r.day, r.fee, r.grace); !slices.Equal(l, []impl.Part{want}) || sum != fees {
			t.Errorf("%s: LateFees = %v, %d; want %v, %d", r.name, l, sum, want, fees)
		}
	}
}

func TestLateFeesOfSeveralParts(t *testing.T) {
	l := []impl.Part{
		{Due: 100, P: 10, PaidP: 10},
		{Due: 110, P: 10, PaidP: 9},
		{Due: 120, P: 10, F: 7, PaidF: 7},
		{Due: 130, P: 10, I: 1, PaidP: 10},
		{Due: 140, P: 10},
		{Due: 150, P: 10},
	}
	want := slices.Clone(l)
	want[1].F, want[3].F, want[4].F = 500, 500, 500
	late, sum := impl.LateFees(l, 146, 500, 5)
	if !slices.Equal(late, want) || sum != 1500 {
		t.Errorf("LateFees = %v, %d", late, sum)
	}
	if again, sum := impl.LateFees(late, 146, 500, 5); !slices.Equal(again, want) || sum != 0 {
		t.Errorf("a second time: %v, %d", again, sum)
	}
	want[5].F = 400
	if later, sum := impl.LateFees(late, 156, 400, 5); !slices.Equal(later, want) || sum != 400 {
		t.Errorf("later: %v, %d", later, sum)
	}
	if same, sum := impl.LateFees(l, 146, 0, 5); !slices.Equal(same, l) || sum != 0 {
		t.Errorf("with a fee of 0: %v, %d", same, sum)
	}
	if none, sum := impl.LateFees(nil, 146, 500, 5); len(none) != 0 || sum != 0 {
		t.Errorf("the empty plan: %v, %d", none, sum)
	}
	if paid, sum := impl.LateFees(greatPlan(), 146, 500, 5); !slices.Equal(paid, greatPlan()) || sum != 0 {
		t.Errorf("a paid plan: %v, %d", paid, sum)
	}
	_, sum = impl.LateFees(manyOpen(), impl.MaxDay, 100000, 0)
	if sum != 2400000 {
		t.Errorf("MaxParts Parts: %d", sum)
	}
}

// manyOpen has MaxParts Parts with a price of 1 that is not paid.
func manyOpen() []impl.Part {
	l := partsOn(daysUpTo(impl.MaxParts)...)
	for i := range l {
		l[i].P = 1
	}
	return l
}

// decreased returns l with the P of its Parts decreased by these amounts, and PaidP too if `paid` is true.
func decreased(l []impl.Part, amounts []int64, paid bool) []impl.Part {
	result := slices.Clone(l)
	for i, n := range amounts {
		result[i].P -= n
		if paid {
			result[i].PaidP -= n
		}
	}
	return result
}

// partlyPaid has 30, 0, 25 and 7 unpaid, and 70, 20, 0 and 13 paid of the prices, and fees and interest that are not paid.
func partlyPaid() []impl.Part {
	return []impl.Part{
		{Due: 100, P: 100, I: 9, F: 9, PaidP: 70, PaidI: 1, PaidF: 2},
		{Due: 110, P: 20, I: 9, F: 9, PaidP: 20, PaidI: 3, PaidF: 4},
		{Due: 120, P: 25, I: 9, F: 9, PaidP: 0, PaidI: 5, PaidF: 6},
		{Due: 130, P: 20, I: 9, F: 9, PaidP: 13, PaidI: 7, PaidF: 8},
	}
}

func TestCutPlan(t *testing.T) {
	l := partlyPaid()
	for _, r := range []struct {
		n       int64
		amounts []int64
		left    int64
	}{
		{0, nil, 0}, {1, []int64{0, 0, 0, 1}, 0}, {6, []int64{0, 0, 0, 6}, 0}, {7, []int64{0, 0, 0, 7}, 0}, {8, []int64{0, 0, 1, 7}, 0},
		{32, []int64{0, 0, 25, 7}, 0}, {33, []int64{1, 0, 25, 7}, 0}, {61, []int64{29, 0, 25, 7}, 0},
		{62, []int64{30, 0, 25, 7}, 0}, {63, []int64{30, 0, 25, 7}, 1}, {100, []int64{30, 0, 25, 7}, 38}, {most, []int64{30, 0, 25, 7}, most - 62},
	} {
		want := decreased(l, r.amounts, false)
		if m, left := impl.CutPlan(l, r.n); !slices.Equal(m, want) || left != r.left {
			t.Errorf("CutPlan of %d = %v, %d; want %v, %d", r.n, m, left, want, r.left)
		}
	}
}

func TestBackPlan(t *testing.T) {
	l := partlyPaid()
	for _, r := range []struct {
		n       int64
		amounts []int64
		left    int64
	}{
		{0, nil, 0}, {1, []int64{0, 0, 0, 1}, 0}, {12, []int64{0, 0, 0, 12}, 0}, {13, []int64{0, 0, 0, 13}, 0}, {14, []int64{0, 1, 0, 13}, 0},
		{33, []int64{0, 20, 0, 13}, 0}, {34, []int64{1, 20, 0, 13}, 0}, {102, []int64{69, 20, 0, 13}, 0},
		{103, []int64{70, 20, 0, 13}, 0}, {104, []int64{70, 20, 0, 13}, 1}, {200, []int64{70, 20, 0, 13}, 97}, {most, []int64{70, 20, 0, 13}, most - 103},
	} {
		want := decreased(l, r.amounts, true)
		if m, left := impl.BackPlan(l, r.n); !slices.Equal(m, want) || left != r.left {
			t.Errorf("BackPlan of %d = %v, %d; want %v, %d", r.n, m, left, want, r.left)
		}
	}
}

func TestDecreasesOfPlansLimits(t *testing.T) {
	unpaid := make([]impl.Part, impl.MaxParts)
	for i := range unpaid {
		unpaid[i] = impl.Part{Due: int64(i), P: most}
	}
	amounts := append(make([]int64, impl.MaxParts-1), most)
	for _, n := range []int64{0, 1, most} {
		for _, r := range []struct {
			name   string
			change func([]impl.Part, int64) ([]impl.Part, int64)
			l      []impl.Part
		}{
			{"CutPlan of the empty plan", impl.CutPlan, nil}, {"BackPlan of the empty plan", impl.BackPlan, nil},
			{"CutPlan of a paid plan", impl.CutPlan, greatPlan()}, {"BackPlan of an unpaid plan", impl.BackPlan, unpaid},
		} {
			if m, left := r.change(r.l, n); !slices.Equal(m, r.l) || left != n {
				t.Errorf("%s: %v, %d; want %d", r.name, m, left, n)
			}
		}
	}
	if m, left := impl.CutPlan(unpaid, most); !slices.Equal(m, decreased(unpaid, amounts, false)) || left != 0 {
		t.Errorf("CutPlan of the greatest plan: %v, %d", m, left)
	}
	if m, left := impl.BackPlan(greatPlan(), most); !slices.Equal(m, decreased(greatPlan(), amounts, true)) || left != 0 {
		t.Errorf("BackPlan of the greatest plan: %v, %d", m, left)
	}
}

func TestPayoff(t *testing.T) {
	l := []impl.Part{
		{Due: 100, P: 100, I: 10, F: 4, PaidP: 100, PaidI: 10, PaidF: 3},
		{Due: 110, P: 90, I: 20, F: 8, PaidP: 10, PaidI: 6, PaidF: 8},
		{Due: 120, P: 80, I: 30, F: 0, PaidP: 0, PaidI: 7, PaidF: 0},
		{Due: 130, P: 70, I: 40, F: 2, PaidP: 70, PaidI: 40, PaidF: 0},
	}
	const feesAndPrice = 1 + 80 + 80 + 2
	for _, r := range []struct {
		day, interest int64
		remaining     [4]int64 // the I afterwards
	}{
		{0, 0, [4]int64{10, 6, 7, 40}}, {99, 0, [4]int64{10, 6, 7, 40}}, {100, 0, [4]int64{10, 6, 7, 40}}, {109, 0, [4]int64{10, 6, 7, 40}},
		{110, 14, [4]int64{10, 20, 7, 40}}, {111, 14, [4]int64{10, 20, 7, 40}}, {119, 14, [4]int64{10, 20, 7, 40}},
		{120, 37, [4]int64{10, 20, 30, 40}}, {121, 37, [4]int64{10, 20, 30, 40}}, {130, 37, [4]int64{10, 20, 30, 40}}, {impl.MaxDay, 37, [4]int64{10, 20, 30, 40}},
	} {
		want := slices.Clone(l)
		for i := range want {
			p := &want[i]
			p.I = r.remaining[i]
			p.PaidP, p.PaidI, p.PaidF = p.P, p.I, p.F
		}
		if n := impl.PayoffOf(l, r.day); n != feesAndPrice+r.interest {
			t.Errorf("PayoffOf on day %d = %d; want %d", r.day, n, feesAndPrice+r.interest)
		}
		if m, sum := impl.PaidOff(l, r.day); !slices.Equal(m, want) || sum != 37-r.interest {
			t.Errorf("PaidOff on day %d = %v, %d; want %v, %d", r.day, m, sum, want, 37-r.interest)
		}
	}
}

func TestPayoffLimits(t *testing.T) {
	for _, day := range []int64{0, 50, impl.MaxDay} {
		for _, l := range [][]impl.Part{nil, greatPlan(), partsOn(10, 60)} {
			if n := impl.PayoffOf(l, day); n != 0 {
				t.Errorf("PayoffOf(%v, %d) = %d", l, day, n)
			}
			if m, sum := impl.PaidOff(l, day); !slices.Equal(m, l) || sum != 0 {
				t.Errorf("PaidOff(%v, %d) = %v, %d", l, day, m, sum)
			}
		}
	}
	l := make([]impl.Part, impl.MaxParts)
	for i := range l {
		l[i] = impl.Part{Due: int64(i), P: most, I: most, F: most}
	}
	if n := impl.PayoffOf(l, impl.MaxDay); n != 72*most {
		t.Errorf("PayoffOf the greatest plan = %d", n)
	}
	if n := impl.PayoffOf(l, 9); n != 58*most {
		t.Errorf("PayoffOf the greatest plan on day 9 = %d", n)
	}
	if m, sum := impl.PaidOff(l, impl.MaxDay); !slices.Equal(m, greatPlan()) || sum != 0 {
		t.Errorf("PaidOff of the greatest plan = %v, %d", m, sum)
	}
	if _, sum := impl.PaidOff(l, 9); sum != 14*most {
		t.Errorf("PaidOff of the greatest plan on day 9 decreases the interest by %d", sum)
	}
}

// randomPlan has small numbers, so that all kinds of Parts occur: paid, unpaid, and with nothing to pay.
func randomPlan(source *rand.Rand) []impl.Part {
	var l []impl.Part
	due := int64(90)
	for range source.Intn(6) {
		due += 1 + source.Int63n(4)
		p := impl.Part{Due: due, P: source.Int63n(7), I: source.Int63n(4), F: source.Int63n(3)}
		p.PaidP, p.PaidI, p.PaidF = source.Int63n(p.P+1), source.Int63n(p.I+1), source.Int63n(p.F+1)
		if source.Intn(4) == 0 {
			p.PaidP, p.PaidI, p.PaidF = p.P, p.I, p.F
		}
		l = append(l, p)
	}
	return l
}

// pointersTo returns pointers to the Parts of several plans, so that they are changed as one list.
func pointersTo(plans ...[]impl.Part) []*impl.Part {
	var list []*impl.Part
	for _, l := range plans {
		for i := range l {
			list = append(list, &l[i])
		}
	}
	return list
}

// payUnits pays one unit after the other, each to the first place where something is unpaid.
func payUnits(list []*impl.Part, n int64) (impl.Part, int64) {
	var paid impl.Part
	for ; n > 0; n-- {
		i := slices.IndexFunc(list, func(p *impl.Part) bool { return p.PaidF < p.F || p.PaidI < p.I || p.PaidP < p.P })
		if i < 0 {
			break
		}
		switch p := list[i]; {
		case p.PaidF < p.F:
			p.PaidF++
			paid.PaidF++
		case p.PaidI < p.I:
			p.PaidI++
			paid.PaidI++
		default:
			p.PaidP++
			paid.PaidP++
		}
	}
	return paid, n
}

// cutUnits takes one unit after the other from the last P that is not completely paid.
func cutUnits(list []*impl.Part, n int64) int64 {
	for i := len(list) - 1; i >= 0 && n > 0; {
		if list[i].PaidP == list[i].P {
			i--
			continue
		}
		list[i].P--
		n--
	}
	return n
}

// backUnits takes one unit after the other from the last P of which something is paid.
func backUnits(list []*impl.Part, n int64) int64 {
	for i := len(list) - 1; i >= 0 && n > 0; {
		if list[i].PaidP == 0 {
			i--
			continue
		}
		list[i].P--
		list[i].PaidP--
		n--
	}
	return n
}

func paidSum(p impl.Part) int64 { return p.PaidP + p.PaidI + p.PaidF }

func unpaidSum(p impl.Part) int64 { return p.P + p.I + p.F - paidSum(p) }

// TestPlansUnitByUnit checks the second part of promise 5, and the order of payments, cuts and give-backs.
func TestPlansUnitByUnit(t *testing.T) {
	source := rand.New(rand.NewSource(12))
	for range 4000 {
		l := randomPlan(source)
		n := source.Int63n(unpaidSum(impl.SumsOf(l)) + 4)
		want := slices.Clone(l)
		wantPaid, wantLeft := payUnits(pointersTo(want), n)
		m, paid, left := impl.PayPlan(l, n)
		if !slices.Equal(m, want) || paid != wantPaid || left != wantLeft {
			t.Fatalf("PayPlan(%v, %d) = %v, %v, %d; want %v, %v, %d", l, n, m, paid, left, want, wantPaid, wantLeft)
		}
		if paidSum(impl.SumsOf(m))-paidSum(impl.SumsOf(l)) != n-left || paidSum(paid) != n-left {
			t.Fatalf("PayPlan(%v, %d) = %v, %v, %d", l, n, m, paid, left)
		}
		want = slices.Clone(l)
		wantLeft = cutUnits(pointersTo(want), n)
		if m, left := impl.CutPlan(l, n); !slices.Equal(m, want) || left != wantLeft {
			t.Fatalf("CutPlan(%v, %d) = %v, %d; want %v, %d", l, n, m, left, want, wantLeft)
		}
		want = slices.Clone(l)
		wantLeft = backUnits(pointersTo(want), n)
		if m, left := impl.BackPlan(l, n); !slices.Equal(m, want) || left != wantLeft {
			t.Fatalf("BackPlan(%v, %d) = %v, %d; want %v, %d", l, n, m, left, want, wantLeft)
		}
	}
}

// TestPayoffLeavesNothing checks the third part of promise 5.
func TestPayoffLeavesNothing(t *testing.T) {
	source := rand.New(rand.NewSource(13))
	for range 4000 {
		l, day := randomPlan(source), 88+source.Int63n(26)
		before, cost := impl.SumsOf(l), impl.PayoffOf(l, day)
		m, decrease := impl.PaidOff(l, day)
		after := impl.SumsOf(m)
		if !impl.PlanOk(m) || len(m) != len(l) || unpaidSum(after) != 0 || impl.PayoffOf(m, impl.MaxDay) != 0 {
			t.Fatalf("PaidOff(%v, %d) = %v, %d", l, day, m, decrease)
		}
		if paidSum(after)-paidSum(before) != cost || cost+decrease != unpaidSum(before) {
			t.Fatalf("PaidOff(%v, %d) = %v, %d, and PayoffOf %d", l, day, m, decrease, cost)
		}
		if after.P != before.P || after.F != before.F || before.I-after.I != decrease {
			t.Fatalf("PaidOff(%v, %d) = %v, %d", l, day, m, decrease)
		}
		due := slices.Clone(l)
		for i := range due {
			if due[i].Due > day {
				due[i].I = due[i].PaidI
			}
		}
		if paid, _, left := impl.PayPlan(due, cost); left != 0 || !slices.Equal(paid, m) {
			t.Fatalf("paying %d leaves %v of %v", cost, paid, l)
		}
	}
}

// TestPlansLeaveTheirArguments also looks at the spare capacity behind a plan.
func TestPlansLeaveTheirArguments(t *testing.T) {
	spare := impl.Part{Due: -7, P: -8, PaidI: -9}
	memory := append(partlyPaid(), spare, spare, spare)
	before := slices.Clone(memory)
	l := memory[:4]
	results := func() [][]impl.Part {
		made, _ := impl.PlanMade(100, 5, 70, 900)
		paid, _, _ := impl.PayPlan(l, 90)
		same, _, _ := impl.PayPlan(l, 0)
		late, _ := impl.LateFees(l, 300, 500, 5)
		early, _ := impl.LateFees(l, 1, 500, 5)
		cut, _ := impl.CutPlan(l, 40)
		uncut, _ := impl.CutPlan(l, 0)
		back, _ := impl.BackPlan(l, 40)
		kept, _ := impl.BackPlan(l, 0)
		off, _ := impl.PaidOff(l, 115)
		return [][]impl.Part{made, paid, same, late, early, cut, uncut, back, kept, off}
	}
	first, second := results(), results()
	impl.PlanOk(l)
	impl.SumsOf(l)
	impl.PayoffOf(l, 115)
	impl.PayPlan(memory, 90)
	if !slices.Equal(memory, before) {
		t.Fatal("a plan changed:", memory)
	}
	expected := results()
	for i, result := range first {
		if len(result) < 4 || !slices.Equal(result, second[i]) {
			t.Fatal("equal arguments:", result, second[i])
		}
		result = result[:cap(result)]
		for j := range result {
			result[j] = spare
		}
		if !slices.Equal(memory, before) || !slices.EqualFunc(second, expected, slices.Equal[[]impl.Part]) {
			t.Fatal("the result", i, "is not new memory:", memory, second)
		}
	}
	for i := range memory {
		memory[i] = spare
	}
	if !slices.EqualFunc(second, expected, slices.Equal[[]impl.Part]) {
		t.Fatal("a result shares memory with the plan:", second)
	}
}
