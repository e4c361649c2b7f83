package tests

import (
	"math"
	"math/big"
	"math/rand"
	"slices"
	"testing"

	"loop.example/g00714/impl"
)

const most = impl.MaxMoney

func TestCurrencies(t *testing.T) {
	for i, r := range []struct {
		code   string
		places int64
	}{{"EUR", 2}, {"USD", 2}, {"JPY", 0}, {"GBP", 2}, {"KWD", 3}, {"CHF", 2}} {
		cur := int64(i)
		if s := impl.CodeOf(cur); s != r.code {
			t.Errorf("CodeOf(%d) = %q", cur, s)
		}
		if n := impl.CurOf(r.code); n != cur {
			t.Errorf("CurOf(%q) = %d", r.code, n)
		}
		if n := impl.PlacesOf(cur); n != r.places {
			t.Errorf("PlacesOf(%d) = %d", cur, n)
		}
	}
}

func TestNoCurrency(t *testing.T) {
	for _, cur := range []int64{-1, 6, math.MinInt64, math.MaxInt64} {
		if s := impl.CodeOf(cur); s != "" {
			t.Errorf("CodeOf(%d) = %q", cur, s)
		}
		if n := impl.PlacesOf(cur); n != -1 {
			t.Errorf("PlacesOf(%d) = %d", cur, n)
		}
	}
	for _, code := range []string{"", "eur", "EU", "EURO", " EUR", "EUR ", "EUR\x00", "XXX"} {
		if n := impl.CurOf(code); n != -1 {
			t.Errorf("CurOf(%q) = %d", code, n)
		}
	}
}

func TestMulDivRounding(t *testing.T) {
	for _, r := range []struct{ a, b, c, want int64 }{
		{7, 1, 2, 4}, {5, 1, 2, 2}, {3, 1, 2, 2}, {1, 1, 2, 0}, {9, 1, 6, 2}, {15, 1, 6, 2},
		{10, 1, 3, 3}, {11, 1, 3, 4}, {1, 1, 3, 0}, {2, 1, 3, 1},
		{0, 5, 7, 0}, {5, 0, 7, 0}, {-5, 0, 7, 0}, {12, 5, 6, 10},
		{most - 1, 1, most, 1}, {most / 2, 1, most, 0}, {most/2 + 1, 1, most, 1},
		{3, most / 2, most, 2}, {5, most / 2, most, 2},
	} {
		if n, ok := impl.MulDiv(r.a, r.b, r.c); !ok || n != r.want {
			t.Errorf("MulDiv(%d, %d, %d) = %d, %v; want %d", r.a, r.b, r.c, n, ok, r.want)
		}
		if n, ok := impl.MulDiv(-r.a, r.b, r.c); !ok || n != -r.want {
			t.Errorf("MulDiv(%d, %d, %d) = %d, %v; want %d", -r.a, r.b, r.c, n, ok, -r.want)
		}
	}
}

func TestMulDivLimits(t *testing.T) {
	for _, r := range []struct {
		a, b, c, want int64
		ok            bool
	}{
		{most, most, most, most, true}, {-most, most, most, -most, true},
		{most, 1, 1, most, true}, {-most, 1, 1, -most, true}, {1, most, 1, most, true},
		{most/2 + 1, 2, 1, 0, false}, {-most/2 - 1, 2, 1, 0, false}, {most, most, most - 1, 0, false},
		{most, most, 1, 0, false}, {-most, most, 1, 0, false}, {most, most, 54210, 0, false}, {most, most, 54211, 0, false}, {400000000001, 5, 2, 0, false},
		// a quotient of MaxMoney and a half is a tie, which rounds to MaxMoney
		{666666666667, 3, 2, most, true}, {-666666666667, 3, 2, -most, true},
		// MaxMoney and three quarters, or three fifths, is beyond the amounts only when it is rounded
		{571428571429, 7, 4, 0, false}, {-571428571429, 7, 4, 0, false}, {294117647059, 17, 5, 0, false}, {-294117647059, 17, 5, 0, false},
		{most + 1, 1, 1, 0, false}, {-most - 1, 1, 1, 0, false}, {most + 1, 0, 1, 0, false},
		{1, most + 1, most, 0, false}, {1, -1, 1, 0, false}, {0, -1, 1, 0, false},
		{1, 1, most + 1, 0, false}, {1, 1, 0, 0, false}, {1, 1, -1, 0, false}, {0, 0, 0, 0, false},
		{math.MinInt64, 1, 1, 0, false}, {math.MaxInt64, 1, 1, 0, false},
		{1, math.MinInt64, 1, 0, false}, {1, math.MaxInt64, 1, 0, false},
		{1, 1, math.MinInt64, 0, false}, {1, 1, math.MaxInt64, 0, false},
	} {
		if n, ok := impl.MulDiv(r.a, r.b, r.c); ok != r.ok || n != r.want {
			t.Errorf("MulDiv(%d, %d, %d) = %d, %v; want %d, %v", r.a, r.b, r.c, n, ok, r.want, r.ok)
		}
	}
}

// exactMulDiv takes the floor and its successor, and of the two the nearer one, or the even one.
func exactMulDiv(a, b, c int64) (int64, bool) {
	product := new(big.Int).Mul(big.NewInt(a), big.NewInt(b))
	floor, rest := new(big.Int).DivMod(product, big.NewInt(c), new(big.Int))
	side := new(big.Int).Lsh(rest, 1).Cmp(big.NewInt(c))
	if side > 0 || side == 0 && floor.Bit(0) == 1 {
		floor.Add(floor, big.NewInt(1))
	}
	if !floor.IsInt64() || floor.Int64() < -most || floor.Int64() > most {
		return 0, false
	}
	return floor.Int64(), true
}

func TestMulDivExact(t *testing.T) {
	check := func(a, b, c int64) {
		n, ok := impl.MulDiv(a, b, c)
		if want, wantOk := exactMulDiv(a, b, c); n != want || ok != wantOk {
			t.Fatalf("MulDiv(%d, %d, %d) = %d, %v; want %d, %v", a, b, c, n, ok, want, wantOk)
		}
	}
	for a := int64(-30); a <= 30; a++ {
		for b := int64(0); b <= 6; b++ {
			for c := int64(1); c <= 12; c++ {
				check(a, b, c)
			}
		}
	}
	source := rand.New(rand.NewSource(1))
	for range 50000 {
		check(randomUpTo(source, most)*(source.Int63n(2)*2-1), randomUpTo(source, most), randomUpTo(source, most-1)+1)
	}
}

func rejectsMulDiv(t *testing.T, a, b, c int64) {
	t.Helper()
	for _, signed := range []int64{a, -a} {
		if n, ok := impl.MulDiv(signed, b, c); n != 0 || ok {
			t.Errorf("MulDiv(%d, %d, %d) = %d, %v; want 0, false", signed, b, c, n, ok)
		}
	}
}

// TestMulDivAboutTwoToThe64 takes products on both sides of 2^64 * c, where a result in one word would wrap around to an amount.
// With c = x * x, (2^32 * x - y) * (2^32 * x + y) is 2^64 * c - y * y, while random arguments hardly ever come as near.
func TestMulDivAboutTwoToThe64(t *testing.T) {
	power := new(big.Int).Lsh(big.NewInt(1), 64)
	below, at, roundedUp := 0, 0, 0
	for x := int64(1); x<<32+x <= most; x++ {
		c := x * x
		for y := int64(0); y <= x; y++ {
			a, b := x<<32-y, x<<32+y
			rejectsMulDiv(t, a, b, c)
			rejectsMulDiv(t, b, a, c)
			rejectsMulDiv(t, b, b, c)
			quotient := new(big.Int).Mul(big.NewInt(a), big.NewInt(b))
			quotient.Quo(quotient, big.NewInt(c))
			if quotient.Cmp(power) >= 0 {
				at++
				continue
			}
			below++
			if 2*y*y <= c {
				roundedUp++
			}
		}
	}
	// Without these the loop would not reach what it is for.
	if below == 0 || at == 0 || roundedUp == 0 {
		t.Error("below 2^64, at 2^64, rounded up to 2^64:", below, at, roundedUp)
	}
}

func TestMulDivFarBeyondAmounts(t *testing.T) {
	for _, r := range []struct{ a, b, c int64 }{
		// 2^64 - 1 and more than a half, of divisors that are no squares
		{999997426115, 996126743896, 54000}, {999998555596, 977734188382, 53003}, {999975664853, 922581015759, 50012},
		// 2^64 - 1, 2^64 and 2^64 + 2^32; of the last two, the lower word alone is an amount
		{1<<32 - 1, 1<<32 + 1, 1}, {1 << 32, 1 << 32, 1}, {1 << 32, 1<<32 + 1, 1},
		// 2^64 again, and 2^66, with greater divisors
		{1 << 39, 1 << 39, 1 << 14}, {1 << 39, 1 << 39, 1 << 12},
		// 2^63 - 1, 2^63 and 2^63 + 1, where a signed word would wrap around
		{60247241209, 153092023, 1}, {1 << 32, 1 << 31, 1}, {77158673929, 119537721, 1},
		{most, most, 1}, {most, most, 2}, {most, most, 54210}, {most, most, 54211}, {most, 100000000, 1},
	} {
		rejectsMulDiv(t, r.a, r.b, r.c)
	}
}

// randomUpTo returns numbers of all lengths, small ones as often as great ones.
func randomUpTo(source *rand.Rand, limit int64) int64 {
	return source.Int63n(source.Int63n(limit>>source.Intn(40)+1) + 1)
}

func TestMulDivWithinHalfOfDivisor(t *testing.T) {
	source := rand.New(rand.NewSource(2))
	for range 50000 {
		a, b := randomUpTo(source, most), randomUpTo(source, 1000000)
		c := randomUpTo(source, most-1) + 1
		if source.Intn(2) == 0 {
			a = -a
		}
		n, ok := impl.MulDiv(a, b, c)
		if !ok {
			continue
		}
		if gap := n*c - a*b; 2*max(gap, -gap) > c {
			t.Fatalf("MulDiv(%d, %d, %d) = %d, which is %d away", a, b, c, n, gap)
		}
	}
}

func TestShared(t *testing.T) {
	for _, r := range []struct {
		total         int64
		weights, want []int64
	}{
		{10, []int64{1, 1, 1}, []int64{4, 3, 3}},
		{11, []int64{1, 1, 1}, []int64{4, 4, 3}},
		{100, []int64{1, 2, 4}, []int64{14, 29, 57}},
		{0, []int64{3, 0, 5}, []int64{0, 0, 0}},
		{7, []int64{9}, []int64{7}},
		{most, []int64{1}, []int64{most}},
		{most, []int64{1000000, 1000000, 1000000}, []int64{333333333334, 333333333333, 333333333333}},
		// a weight of 0 receives nothing, wherever it stands
		{5, []int64{0, 1}, []int64{0, 5}},
		{5, []int64{0, 1, 0, 1, 0}, []int64{0, 3, 0, 2, 0}},
		{2, []int64{0, 1, 1, 1}, []int64{0, 1, 1, 0}},
		// of equal remainders the first ones come first, behind a greater one that stands later
		{1, []int64{1, 2}, []int64{0, 1}},
		{1, []int64{1, 2, 2, 1}, []int64{0, 1, 0, 0}},
		{3, []int64{1, 2, 1, 2}, []int64{1, 1, 0, 1}},
		{2, []int64{1, 3, 3, 1}, []int64{0, 1, 1, 0}},
		// the greatest remainder is not that of the greatest weight
		{10, []int64{6, 3, 3}, []int64{5, 3, 2}},
		{10, []int64{11, 3, 2}, []int64{7, 2, 1}},
		{7, []int64{4, 5, 1}, []int64{3, 3, 1}},
	} {
		if l := impl.Shared(r.total, r.weights); !slices.Equal(l, r.want) {
			t.Errorf("Shared(%d, %v) = %v; want %v", r.total, r.weights, l, r.want)
		}
	}
}

func TestSharedLimits(t *testing.T) {
	ones := slices.Repeat([]int64{1}, 61)
	if l := impl.Shared(61, ones[:60]); len(l) != 60 || l[0] != 2 || l[1] != 1 || l[59] != 1 {
		t.Error("60 weights:", l)
	}
	if l := impl.Shared(most, slices.Repeat([]int64{1000000}, 60)); len(l) != 60 || sum(l) != most {
		t.Error("the greatest weights:", l)
	}
	for _, r := range []struct {
		total   int64
		weights []int64
	}{
		{-1, []int64{1}}, {most + 1, []int64{1}}, {math.MinInt64, []int64{1}}, {math.MaxInt64, []int64{1}},
		{5, nil}, {5, []int64{}}, {61, ones}, {0, nil},
		{5, []int64{0}}, {5, []int64{0, 0}}, {0, []int64{0}},
		{5, []int64{-1}}, {5, []int64{3, -1}}, {5, []int64{-1, 3}}, {5, []int64{1000001}}, {5, []int64{1, 1000001}},
		{5, []int64{math.MinInt64, 1}}, {5, []int64{math.MaxInt64, math.MaxInt64, 3}},
	} {
		if l := impl.Shared(r.total, r.weights); len(l) != 0 {
			t.Errorf("Shared(%d, %v) = %v; want nothing", r.total, r.weights, l)
		}
	}
}

func sum(l []int64) int64 {
	s := int64(0)
	for _, n := range l {
		s += n
	}
	return s
}

// exactShared gives the remaining units one by one, each to the first greatest remainder that has none yet.
func exactShared(total int64, weights []int64) []int64 {
	all := sum(weights)
	shares, rests := make([]int64, len(weights)), make([]int64, len(weights))
	for i, w := range weights {
		shares[i], rests[i] = total*w/all, total*w%all
	}
	for sum(shares) < total {
		best := 0
		for i := range rests {
			if rests[i] > rests[best] {
				best = i
			}
		}
		shares[best]++
		rests[best] = -1
	}
	return shares
}

func TestSharedCompleteAndInOrder(t *testing.T) {
	source := rand.New(rand.NewSource(3))
	for range 20000 {
		weights := make([]int64, source.Intn(60)+1)
		limit := []int64{1, 3, 100, 1000000}[source.Intn(4)]
		for i := range weights {
			weights[i] = source.Int63n(limit + 1)
		}
		total := randomUpTo(source, most)
		l := impl.Shared(total, weights)
		if sum(weights) == 0 {
			if len(l) != 0 {
				t.Fatalf("Shared(%d, %v) = %v", total, weights, l)
			}
			continue
		}
		if len(l) != len(weights) || sum(l) != total {
			t.Fatalf("Shared(%d, %v) = %v is not complete", total, weights, l)
		}
		for i := range l {
			for j := range l {
				if weights[i] > weights[j] && l[i] < l[j] {
					t.Fatalf("Shared(%d, %v) = %v gives less to a greater weight", total, weights, l)
				}
			}
		}
		if want := exactShared(total, weights); !slices.Equal(l, want) {
			t.Fatalf("Shared(%d, %v) = %v; want %v", total, weights, l, want)
		}
	}
}

func TestSharedLeavesItsArgument(t *testing.T) {
	memory := []int64{1, 5, 2, 77, 78}
	first := impl.Shared(100, memory[:3])
	if !slices.Equal(memory, []int64{1, 5, 2, 77, 78}) {
		t.Fatal("the weights changed:", memory)
	}
	second := impl.Shared(100, memory[:3])
	if !slices.Equal(first, second) {
		t.Fatal("equal arguments:", first, second)
	}
	first[0] = -9
	if second[0] == -9 || memory[0] == -9 {
		t.Fatal("the result is not new memory")
	}
}

func TestAmountText(t *testing.T) {
	for _, r := range []struct {
		cur, n int64
		text   string
	}{
		{0, 0, "0.00"}, {0, 5, "0.05"}, {0, -5, "-0.05"}, {0, 50, "0.50"}, {0, 99, "0.99"}, {0, 100, "1.00"},
		{1, -100, "-1.00"}, {3, 1234, "12.34"}, {5, -120034, "-1200.34"},
		{0, most, "10000000000.00"}, {0, -most, "-10000000000.00"},
		{2, 0, "0"}, {2, 7, "7"}, {2, -7, "-7"}, {2, 1234, "1234"}, {2, most, "1000000000000"}, {2, -most, "-1000000000000"},
		{4, 0, "0.000"}, {4, 1, "0.001"}, {4, -1, "-0.001"}, {4, 999, "0.999"}, {4, 1000, "1.000"}, {4, -12345, "-12.345"},
		{4, most, "1000000000.000"}, {4, -most, "-1000000000.000"},
	} {
		if s := impl.AmountText(r.cur, r.n); s != r.text {
			t.Errorf("AmountText(%d, %d) = %q; want %q", r.cur, r.n, s, r.text)
		}
		if n, ok := impl.ReadAmount(r.cur, r.text); !ok || n != r.n {
			t.Errorf("ReadAmount(%d, %q) = %d, %v; want %d", r.cur, r.text, n, ok, r.n)
		}
	}
}

func TestNoAmountText(t *testing.T) {
	for _, r := range []struct{ cur, n int64 }{
		{-1, 0}, {6, 0}, {math.MinInt64, 0}, {math.MaxInt64, 0},
		{0, most + 1}, {0, -most - 1}, {2, most + 1}, {4, -most - 1}, {0, math.MinInt64}, {0, math.MaxInt64},
	} {
		if s := impl.AmountText(r.cur, r.n); s != "" {
			t.Errorf("AmountText(%d, %d) = %q", r.cur, r.n, s)
		}
	}
}

func TestReadAmountRejects(t *testing.T) {
	rejected := map[int64][]string{
		0: {"", "-", ".", "-.", "0", "1", "1.", "1.0", "1.000", "01.00", "00.00", "-01.00", "-0.00", ".50", "-.50", "+1.00", "--1.00", "1-.00", "1.-5", "1.00-",
			"1,00", "1.0.0", "1..00", "1.00.", ".1.00", " 1.00", "1.00 ", "1.00\n", "1.0a", "a.00", "1e2.00", "0x1.00", "1_0.00", "１.00",
			"10000000000.01", "-10000000000.01", "100000000000000.00", "1000000000000000.00", "99999999999999999999.00", "184467440737095516.16", "184467440737095516.17"},
		2:  {"", "-", ".", "-0", "00", "01", "1.", "1.0", ".1", "+1", "-01", "1000000000001", "-1000000000001", "9999999999999999", "10000000000000000", "18446744073709551617"},
		4:  {"", "0", "0.0", "0.00", "1.00", "1.0000", "-0.000", "01.000", ".001", "1000000000.001", "-1000000000.001"},
		-1: {"", "0", "0.00", "1.00"},
		6:  {"", "0", "0.00", "1.00"},

		math.MinInt64: {"", "0"},
		math.MaxInt64: {"", "0"},
	}
	for cur, texts := range rejected {
		for _, s := range texts {
			if n, ok := impl.ReadAmount(cur, s); ok || n != 0 {
				t.Errorf("ReadAmount(%d, %q) = %d, %v", cur, s, n, ok)
			}
		}
	}
}

func TestAmountRecoveredFromText(t *testing.T) {
	source := rand.New(rand.NewSource(4))
	check := func(cur, n int64) {
		s := impl.AmountText(cur, n)
		if got, ok := impl.ReadAmount(cur, s); !ok || got != n {
			t.Fatalf("ReadAmount(%d, %q) = %d, %v; want %d", cur, s, got, ok, n)
		}
	}
	for cur := int64(0); cur < 6; cur++ {
		for n := int64(-2100); n <= 2100; n++ {
			check(cur, n)
		}
		for range 5000 {
			n := randomUpTo(source, most)
			check(cur, n)
			check(cur, -n)
		}
	}
}

// TestReadAmountAcceptsTextsAlone tries all short texts: one is accepted if and only if it is the text of the amount that is returned.
func TestReadAmountAcceptsTextsAlone(t *testing.T) {
	const letters = "019.-"
	texts := []string{""}
	for start, length := 0, 0; length < 6; length++ {
		end := len(texts)
		for _, s := range texts[start:end] {
			for _, c := range letters {
				texts = append(texts, s+string(c))
			}
		}
		start = end
	}
	for cur := int64(0); cur < 6; cur++ {
		for _, s := range texts {
			n, ok := impl.ReadAmount(cur, s)
			if ok && impl.AmountText(cur, n) != s || !ok && n != 0 {
				t.Fatalf("ReadAmount(%d, %q) = %d, %v", cur, s, n, ok)
			}
		}
	}
}
