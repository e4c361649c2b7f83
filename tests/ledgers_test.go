package tests

import (
	"math"
	"math/rand"
	"slices"
	"testing"

	"loop.example/g00714/impl"
)

const mostBalance = impl.MaxBalance

var (
	owed      = impl.Acct{Class: impl.ClConsumer, Id: 7, Sub: 1}
	credit    = impl.Acct{Class: impl.ClConsumer, Id: 7, Sub: 2}
	payable   = impl.Acct{Class: impl.ClMerchant, Id: 3, Sub: 1}
	held      = impl.Acct{Class: impl.ClMerchant, Id: 3, Sub: 2}
	cash      = impl.Acct{Class: impl.ClPlatform, Sub: 1}
	discounts = impl.Acct{Class: impl.ClPlatform, Sub: 2}
	exchange  = impl.Acct{Class: impl.ClPlatform, Sub: 5}
)

func TestAcctOk(t *testing.T) {
	const least, greatest = math.MinInt64, math.MaxInt64
	for _, r := range []struct {
		class, id, sub int64
		want           bool
	}{
		{1, 1, 1, true}, {1, 999, 1, true}, {1, 1, 2, true}, {1, 999, 2, true}, {1, 500, 1, true},
		{1, 0, 1, false}, {1, 1000, 1, false}, {1, -1, 1, false}, {1, 1, 0, false}, {1, 1, 3, false}, {1, 1, -1, false}, {1, 0, 2, false}, {1, 1000, 2, false},
		{2, 1, 1, true}, {2, 999, 1, true}, {2, 1, 2, true}, {2, 999, 2, true}, {2, 500, 2, true},
		{2, 0, 1, false}, {2, 1000, 1, false}, {2, -1, 1, false}, {2, 1, 0, false}, {2, 1, 3, false}, {2, 1, -1, false}, {2, 0, 2, false}, {2, 1000, 2, false},
		{3, 0, 1, true}, {3, 0, 2, true}, {3, 0, 3, true}, {3, 0, 4, true}, {3, 0, 5, true},
		{3, 0, 0, false}, {3, 0, 6, false}, {3, 0, -1, false}, {3, 1, 1, false}, {3, -1, 1, false}, {3, 1, 5, false}, {3, 999, 1, false},
		{0, 0, 0, false}, {0, 1, 1, false}, {0, 0, 1, false}, {4, 1, 1, false}, {4, 0, 1, false}, {-1, 1, 1, false}, {-3, 0, 1, false},
		{1, 1, 5, false}, {2, 1, 5, false},
		{least, 1, 1, false}, {greatest, 1, 1, false}, {1, least, 1, false}, {1, greatest, 1, false}, {1, 1, least, false}, {1, 1, greatest, false},
		{3, least, 1, false}, {3, greatest, 1, false}, {3, 0, least, false}, {3, 0, greatest, false},
	} {
		if got := impl.AcctOk(impl.Acct{Class: r.class, Id: r.id, Sub: r.sub}); got != r.want {
			t.Errorf("AcctOk(%d, %d, %d) = %v", r.class, r.id, r.sub, got)
		}
	}
}

func TestLedgerOkOrder(t *testing.T) {
	// Each place comes before the next one, and they differ first in Class, Id, Sub or Cur, with the later fields the other way round.
	ordered := []impl.Post{
		{A: impl.Acct{Class: 1, Id: 1, Sub: 1}, Cur: 5, N: 9},
		{A: impl.Acct{Class: 1, Id: 1, Sub: 2}, Cur: 0, N: 8},
		{A: impl.Acct{Class: 1, Id: 1, Sub: 2}, Cur: 1, N: -7},
		{A: impl.Acct{Class: 1, Id: 2, Sub: 1}, Cur: 0, N: 6},
		{A: impl.Acct{Class: 1, Id: 10, Sub: 1}, Cur: 0, N: 6},
		{A: impl.Acct{Class: 1, Id: 999, Sub: 2}, Cur: 5, N: 5},
		{A: impl.Acct{Class: 2, Id: 1, Sub: 1}, Cur: 0, N: -4},
		{A: impl.Acct{Class: 2, Id: 999, Sub: 2}, Cur: 4, N: 3},
		{A: impl.Acct{Class: 3, Id: 0, Sub: 1}, Cur: 0, N: -2},
		{A: impl.Acct{Class: 3, Id: 0, Sub: 5}, Cur: 0, N: 1},
	}
	if !impl.LedgerOk(ordered) || !impl.LedgerOk(nil) || !impl.LedgerOk([]impl.Post{}) {
		t.Error("in order, or empty")
	}
	for i := range ordered {
		for j := range ordered {
			if got := impl.LedgerOk([]impl.Post{ordered[i], ordered[j]}); got != (i < j) {
				t.Errorf("LedgerOk of the elements %d and %d = %v", i, j, got)
			}
		}
		if i > 0 {
			swapped := slices.Clone(ordered)
			swapped[i-1], swapped[i] = swapped[i], swapped[i-1]
			if impl.LedgerOk(swapped) {
				t.Errorf("LedgerOk with the elements %d and %d exchanged", i-1, i)
			}
		}
		twice := slices.Insert(slices.Clone(ordered), i, ordered[i])
		twice[i].N = -100
		if impl.LedgerOk(twice) {
			t.Errorf("LedgerOk with the place of the element %d twice", i)
		}
	}
}

func TestLedgerOkElements(t *testing.T) {
	for _, r := range []struct {
		p    impl.Post
		want bool
	}{
		{impl.Post{A: owed, N: 1}, true}, {impl.Post{A: owed, N: -1}, true}, {impl.Post{A: owed, Cur: 5, N: 1}, true},
		{impl.Post{A: owed, N: mostBalance}, true}, {impl.Post{A: owed, N: -mostBalance}, true},
		{impl.Post{A: owed, N: mostBalance + 1}, false}, {impl.Post{A: owed, N: -mostBalance - 1}, false},
		{impl.Post{A: owed, N: math.MaxInt64}, false}, {impl.Post{A: owed, N: math.MinInt64}, false},
		{impl.Post{A: owed, N: 0}, false}, {impl.Post{A: owed, Cur: 3}, false},
		{impl.Post{A: owed, Cur: -1, N: 1}, false}, {impl.Post{A: owed, Cur: 6, N: 1}, false},
		{impl.Post{A: owed, Cur: math.MinInt64, N: 1}, false}, {impl.Post{A: owed, Cur: math.MaxInt64, N: 1}, false},
		{impl.Post{N: 1}, false}, {impl.Post{A: impl.Acct{Class: 1, Id: 1000, Sub: 1}, N: 1}, false}, {impl.Post{A: impl.Acct{Class: 3, Id: 1, Sub: 1}, N: 1}, false},
	} {
		if got := impl.LedgerOk([]impl.Post{r.p}); got != r.want {
			t.Errorf("LedgerOk of %v = %v", r.p, got)
		}
		first := impl.Post{A: impl.Acct{Class: 1, Id: 1, Sub: 1}, N: 4}
		if got := impl.LedgerOk([]impl.Post{first, r.p}); got != r.want {
			t.Errorf("LedgerOk of a valid Post and %v = %v", r.p, got)
		}
	}
}

// consumers returns a ledger of n Posts in EUR of 5 and -5 by turns; it sums to 0 for an even n.
func consumers(n int) []impl.Post {
	l := make([]impl.Post, n)
	for i := range l {
		l[i] = impl.Post{A: impl.Acct{Class: impl.ClConsumer, Id: int64(i + 1), Sub: 1}, N: int64(5 - i%2*10)}
	}
	return l
}

func TestLedgerOkLength(t *testing.T) {
	if !impl.LedgerOk(consumers(400)) || impl.LedgerOk(consumers(401)) || impl.LedgerOk(consumers(900)) {
		t.Error("lengths")
	}
}

func checkPosted(t *testing.T, name string, l, batch, want []impl.Post) {
	t.Helper()
	got, code := impl.Posted(l, batch)
	if code != impl.PsOk || !slices.Equal(got, want) {
		t.Errorf("%s: Posted returns %v, %d; want %v", name, got, code, want)
	}
}

func checkRejected(t *testing.T, name string, l, batch []impl.Post, want int64) {
	t.Helper()
	got, code := impl.Posted(l, batch)
	if code != want || len(got) != 0 {
		t.Errorf("%s: Posted returns %v, %d; want no ledger and %d", name, got, code, want)
	}
}

func TestPosted(t *testing.T) {
	l := []impl.Post{{A: owed, N: 100}, {A: payable, N: -90}, {A: discounts, N: -10}}
	checkPosted(t, "the example", nil, []impl.Post{{A: owed, N: 100}, {A: payable, N: -90}, {A: discounts, N: -10}}, l)
	checkPosted(t, "another order", nil, []impl.Post{{A: discounts, N: -10}, {A: payable, N: -90}, {A: owed, N: 100}}, l)
	checkPosted(t, "no elements", l, nil, l)
	checkPosted(t, "nothing at all", nil, nil, nil)
	checkPosted(t, "further accounts between", l,
		[]impl.Post{{A: cash, N: 30}, {A: credit, N: -5}, {A: owed, N: -25}},
		[]impl.Post{{A: owed, N: 75}, {A: credit, N: -5}, {A: payable, N: -90}, {A: cash, N: 30}, {A: discounts, N: -10}})
	checkPosted(t, "several currencies", l,
		[]impl.Post{{A: cash, Cur: 1, N: 50}, {A: exchange, Cur: 1, N: -50}, {A: exchange, N: 40}, {A: owed, N: -40}, {A: owed, Cur: 5, N: 2}, {A: owed, Cur: 4, N: 3}, {A: held, Cur: 4, N: -3}, {A: held, Cur: 5, N: -2}},
		[]impl.Post{{A: owed, N: 60}, {A: owed, Cur: 4, N: 3}, {A: owed, Cur: 5, N: 2}, {A: payable, N: -90}, {A: held, Cur: 4, N: -3}, {A: held, Cur: 5, N: -2}, {A: cash, Cur: 1, N: 50}, {A: discounts, N: -10}, {A: exchange, N: 40}, {A: exchange, Cur: 1, N: -50}})
	checkPosted(t, "one account several times", l,
		[]impl.Post{{A: owed, N: 1}, {A: owed, N: 2}, {A: cash, N: -7}, {A: owed, N: 4}},
		[]impl.Post{{A: owed, N: 107}, {A: payable, N: -90}, {A: cash, N: -7}, {A: discounts, N: -10}})
	checkPosted(t, "the same element twice", nil,
		[]impl.Post{{A: owed, N: 3}, {A: owed, N: 3}, {A: cash, N: -6}},
		[]impl.Post{{A: owed, N: 6}, {A: cash, N: -6}})
}

func TestPostedToZero(t *testing.T) {
	l := []impl.Post{{A: owed, N: 100}, {A: owed, Cur: 1, N: 5}, {A: payable, N: -90}, {A: discounts, N: -10}, {A: exchange, Cur: 1, N: -5}}
	checkPosted(t, "one balance", l,
		[]impl.Post{{A: owed, N: -100}, {A: cash, N: 100}},
		[]impl.Post{{A: owed, Cur: 1, N: 5}, {A: payable, N: -90}, {A: cash, N: 100}, {A: discounts, N: -10}, {A: exchange, Cur: 1, N: -5}})
	checkPosted(t, "by several elements", l,
		[]impl.Post{{A: payable, N: 40}, {A: owed, N: -90}, {A: payable, N: 50}},
		[]impl.Post{{A: owed, N: 10}, {A: owed, Cur: 1, N: 5}, {A: discounts, N: -10}, {A: exchange, Cur: 1, N: -5}})
	checkPosted(t, "all balances", l,
		[]impl.Post{{A: exchange, Cur: 1, N: 5}, {A: owed, Cur: 1, N: -5}, {A: discounts, N: 10}, {A: payable, N: 90}, {A: owed, N: -100}},
		nil)
	checkPosted(t, "a new account that remains at 0", l, []impl.Post{{A: cash, N: 8}, {A: cash, N: -8}}, l)
	checkPosted(t, "an N of 0 to a new account", l, []impl.Post{{A: cash, N: 0}, {A: held, Cur: 3, N: 0}}, l)
	checkPosted(t, "an N of 0 to an account of the ledger", l, []impl.Post{{A: owed, N: 0}}, l)
	checkPosted(t, "an N of 0 to the empty ledger", nil, []impl.Post{{A: owed, N: 0}}, nil)
	checkPosted(t, "to 0 and on", l,
		[]impl.Post{{A: owed, N: -100}, {A: cash, N: 100}, {A: owed, N: 30}, {A: cash, N: -30}},
		[]impl.Post{{A: owed, N: 30}, {A: owed, Cur: 1, N: 5}, {A: payable, N: -90}, {A: cash, N: 70}, {A: discounts, N: -10}, {A: exchange, Cur: 1, N: -5}})
}

func TestPostedBatchLimits(t *testing.T) {
	checkPosted(t, "20 elements", nil, consumers(20), consumers(20))
	checkRejected(t, "21 elements", nil, append(consumers(20), impl.Post{A: cash, N: 0}), impl.PsBatch)
	checkRejected(t, "22 elements", nil, consumers(22), impl.PsBatch)
	checkPosted(t, "the greatest amounts", nil,
		[]impl.Post{{A: owed, N: most}, {A: cash, N: -most}},
		[]impl.Post{{A: owed, N: most}, {A: cash, N: -most}})
	checkPosted(t, "the greatest amounts several times", nil,
		slices.Concat(slices.Repeat([]impl.Post{{A: owed, N: most}}, 10), slices.Repeat([]impl.Post{{A: cash, N: -most}}, 10)),
		[]impl.Post{{A: owed, N: 10 * most}, {A: cash, N: -10 * most}})
	for _, p := range []impl.Post{
		{A: owed, N: most + 1}, {A: owed, N: -most - 1}, {A: owed, N: math.MaxInt64}, {A: owed, N: math.MinInt64},
		{A: owed, Cur: -1}, {A: owed, Cur: 6}, {A: owed, Cur: math.MinInt64}, {A: owed, Cur: math.MaxInt64},
		{}, {A: impl.Acct{Class: 1, Id: 1000, Sub: 1}}, {A: impl.Acct{Class: 2, Id: 1, Sub: 3}}, {A: impl.Acct{Class: 3, Id: 1, Sub: 1}}, {A: impl.Acct{Class: 4, Id: 1, Sub: 1}},
	} {
		balanced := []impl.Post{p, {A: cash, Cur: p.Cur, N: -p.N}}
		checkRejected(t, "a bad element", nil, balanced, impl.PsBatch)
		slices.Reverse(balanced)
		checkRejected(t, "a bad element at the end", nil, balanced, impl.PsBatch)
	}
}

func TestPostedSums(t *testing.T) {
	for i, batch := range [][]impl.Post{
		{{A: cash, N: 1}},
		{{A: cash, N: -1}},
		{{A: cash, N: 1}, {A: owed, N: -2}},
		{{A: cash, N: 1}, {A: owed, Cur: 1, N: -1}},
		{{A: cash, Cur: 5, N: 1}, {A: owed, Cur: 4, N: -1}},
		{{A: cash, N: 1}, {A: owed, N: -1}, {A: cash, Cur: 5, N: 1}},
		{{A: cash, N: 7}, {A: owed, N: -1}, {A: cash, Cur: 2, N: 3}, {A: owed, Cur: 2, N: -9}},
		slices.Repeat([]impl.Post{{A: cash, N: most}}, 20),
	} {
		checkRejected(t, "not balanced", nil, batch, impl.PsSum)
		if i == 0 {
			checkRejected(t, "not balanced, to its opposite", []impl.Post{{A: cash, N: -1}}, batch, impl.PsSum)
		}
	}
	for cur := range int64(6) {
		checkRejected(t, "one currency alone", nil, []impl.Post{{A: cash, Cur: cur, N: 4}}, impl.PsSum)
	}
	// The sum of the batch matters, not that of the ledger.
	checkPosted(t, "a ledger that does not sum to 0", []impl.Post{{A: owed, N: 3}},
		[]impl.Post{{A: owed, N: 1}, {A: cash, N: -1}},
		[]impl.Post{{A: owed, N: 4}, {A: cash, N: -1}})
}

func TestPostedFull(t *testing.T) {
	l := []impl.Post{{A: owed, N: mostBalance - 1}, {A: cash, N: 1 - mostBalance}}
	checkPosted(t, "to both limits", l,
		[]impl.Post{{A: owed, N: 1}, {A: cash, N: -1}},
		[]impl.Post{{A: owed, N: mostBalance}, {A: cash, N: -mostBalance}})
	checkRejected(t, "beyond the upper limit", l, []impl.Post{{A: owed, N: 2}, {A: payable, N: -2}}, impl.PsFull)
	checkRejected(t, "beyond the lower limit", l, []impl.Post{{A: cash, N: -2}, {A: payable, N: 2}}, impl.PsFull)
	checkRejected(t, "beyond it by several elements", l, []impl.Post{{A: owed, N: 1}, {A: owed, N: 1}, {A: payable, N: -2}}, impl.PsFull)
	checkPosted(t, "beyond it only between two elements", l,
		[]impl.Post{{A: owed, N: most}, {A: owed, N: -most}, {A: cash, N: -most}, {A: cash, N: most}}, l)
}

func TestPostedFullLedger(t *testing.T) {
	l := consumers(400)
	checkRejected(t, "401 and 402 Posts", l, []impl.Post{{A: cash, N: 5}, {A: payable, N: -5}}, impl.PsFull)
	checkRejected(t, "401 Posts", l, []impl.Post{{A: cash, N: 5}, {A: l[0].A, N: -4}, {A: l[1].A, N: -1}}, impl.PsFull)
	changed := slices.Clone(l)
	changed[0].N, changed[399].N = 6, -6
	checkPosted(t, "no further Post", l, []impl.Post{{A: l[0].A, N: 1}, {A: l[399].A, N: -1}}, changed)
	// A balance that becomes 0 leaves its place to another one, in whatever order they are named.
	moved := append(slices.Clone(l[1:]), impl.Post{A: cash, N: 5})
	checkPosted(t, "a Post for another one", l, []impl.Post{{A: cash, N: 5}, {A: l[0].A, N: -5}}, moved)
	checkPosted(t, "a Post that remains at 0", l, []impl.Post{{A: cash, N: 0}}, l)
	checkPosted(t, "the 400th Post", l[:399], []impl.Post{{A: l[399].A, N: -5}, {A: l[0].A, N: 5}},
		slices.Concat([]impl.Post{{A: l[0].A, N: 10}}, l[1:]))
}

func TestPostedFirstCode(t *testing.T) {
	bad := []impl.Post{{A: cash, N: 1}, {A: owed, N: -1}}
	full := []impl.Post{{A: owed, N: mostBalance}, {A: cash, N: -mostBalance}}
	noAccount, unbalanced, tooMuch := impl.Post{N: 1}, impl.Post{A: owed, N: 2}, impl.Post{A: owed, N: 1}
	for _, r := range []struct {
		name     string
		l, batch []impl.Post
		want     int64
	}{
		{"only the ledger", bad, nil, impl.PsLedger},
		{"ledger, batch and sum", bad, []impl.Post{noAccount}, impl.PsLedger},
		{"ledger and sum", bad, []impl.Post{unbalanced}, impl.PsLedger},
		{"a ledger too long, and a batch too long", consumers(401), make([]impl.Post, 21), impl.PsLedger},
		{"a ledger with a 0 that the batch would change", []impl.Post{{A: owed}}, []impl.Post{{A: owed, N: 1}, {A: cash, N: -1}}, impl.PsLedger},
		{"a ledger beyond the limit that the batch would decrease", []impl.Post{{A: owed, N: mostBalance + 1}}, []impl.Post{{A: owed, N: -1}, {A: cash, N: 1}}, impl.PsLedger},
		{"batch and sum", full, []impl.Post{noAccount, unbalanced}, impl.PsBatch},
		{"sum before batch in the list", full, []impl.Post{unbalanced, noAccount}, impl.PsBatch},
		{"a batch too long, and full", full, slices.Repeat([]impl.Post{tooMuch}, 21), impl.PsBatch},
		{"sum and full", full, []impl.Post{unbalanced}, impl.PsSum},
		{"only full", full, []impl.Post{tooMuch, {A: payable, N: -1}}, impl.PsFull},
	} {
		checkRejected(t, r.name, r.l, r.batch, r.want)
	}
	if impl.PsOk != 0 || impl.PsLedger != 1 || impl.PsBatch != 2 || impl.PsSum != 3 || impl.PsFull != 4 {
		t.Error("the codes")
	}
}

func TestBalances(t *testing.T) {
	l := []impl.Post{{A: owed, N: 100}, {A: owed, Cur: 5, N: -8}, {A: credit, N: -20}, {A: payable, N: -90}, {A: held, N: 4}, {A: cash, N: mostBalance}, {A: discounts, N: mostBalance}, {A: exchange, Cur: 1, N: -mostBalance}}
	for _, p := range l {
		if n := impl.BalanceOf(l, p.A, p.Cur); n != p.N {
			t.Errorf("BalanceOf %v = %d", p, n)
		}
	}
	for _, p := range []impl.Post{
		{A: owed, Cur: 1}, {A: cash, Cur: 1}, {A: impl.Acct{Class: 1, Id: 8, Sub: 1}}, {A: impl.Acct{Class: 1, Id: 3, Sub: 1}}, {A: impl.Acct{Class: 2, Id: 7, Sub: 1}}, {A: impl.Acct{Class: 3, Sub: 3}},
		{}, {A: impl.Acct{Class: 4, Id: 7, Sub: 1}}, {A: owed, Cur: -1}, {A: owed, Cur: 6}, {A: owed, Cur: math.MaxInt64}, {A: owed, Cur: math.MinInt64},
	} {
		if n := impl.BalanceOf(l, p.A, p.Cur); n != 0 {
			t.Errorf("BalanceOf %v = %d", p, n)
		}
	}
	for _, r := range []struct{ class, cur, want int64 }{
		{1, 0, 80}, {1, 5, -8}, {1, 1, 0}, {2, 0, -86}, {2, 1, 0}, {3, 0, 2 * mostBalance}, {3, 1, -mostBalance}, {3, 2, 0},
		{0, 0, 0}, {4, 0, 0}, {1, -1, 0}, {1, 6, 0}, {math.MinInt64, 0, 0}, {math.MaxInt64, math.MaxInt64, 0},
	} {
		if n := impl.ClassSum(l, r.class, r.cur); n != r.want {
			t.Errorf("ClassSum(%d, %d) = %d; want %d", r.class, r.cur, n, r.want)
		}
	}
	if s := impl.Trial(l); !slices.Equal(s, []int64{2*mostBalance - 6, -mostBalance, 0, 0, 0, -8}) {
		t.Error("Trial:", s)
	}
	if s := impl.Trial(nil); !slices.Equal(s, make([]int64, 6)) {
		t.Error("Trial of the empty ledger:", s)
	}
	if impl.BalanceOf(nil, owed, 0) != 0 || impl.ClassSum(nil, 1, 0) != 0 {
		t.Error("the empty ledger")
	}
}

func TestBalancesOfGreatestLedger(t *testing.T) {
	l := consumers(400)
	for i := range l {
		l[i].N = -mostBalance
	}
	const want = -400 * mostBalance
	if n := impl.ClassSum(l, impl.ClConsumer, 0); n != want {
		t.Error("ClassSum:", n)
	}
	if s := impl.Trial(l); !slices.Equal(s, []int64{want, 0, 0, 0, 0, 0}) {
		t.Error("Trial:", s)
	}
}

func TestBalancesOfNoLedger(t *testing.T) {
	for i, l := range [][]impl.Post{
		{{A: cash, N: 1}, {A: owed, N: 2}},
		{{A: owed, N: 2}, {A: owed, N: 3}},
		{{A: owed, N: 2}, {A: cash}},
		{{A: owed, N: 2}, {A: cash, Cur: 6, N: 3}},
		{{A: owed, N: 2}, {A: cash, N: mostBalance + 1}},
		{{A: owed, N: 2}, {A: impl.Acct{Class: 3, Sub: 6}, N: 3}},
		append(consumers(400), impl.Post{A: cash, N: 1}),
	} {
		if n := impl.BalanceOf(l, owed, 0); n != 0 {
			t.Errorf("%d: BalanceOf = %d", i, n)
		}
		if n := impl.ClassSum(l, impl.ClConsumer, 0); n != 0 {
			t.Errorf("%d: ClassSum = %d", i, n)
		}
		if s := impl.Trial(l); len(s) != 0 {
			t.Errorf("%d: Trial = %v", i, s)
		}
	}
}

func randomPost(source *rand.Rand) impl.Post {
	a := impl.Acct{Class: source.Int63n(3) + 1, Id: source.Int63n(3) + 1, Sub: source.Int63n(2) + 1}
	if a.Class == impl.ClPlatform {
		a.Id, a.Sub = 0, source.Int63n(5)+1
	}
	return impl.Post{A: a, Cur: source.Int63n(6), N: source.Int63n(7) - 3}
}

// randomBatch completes each Post by an opposite one of the same currency.
func randomBatch(source *rand.Rand) []impl.Post {
	var batch []impl.Post
	for range source.Intn(11) {
		p, opposite := randomPost(source), randomPost(source)
		opposite.Cur, opposite.N = p.Cur, -p.N
		batch = append(batch, p, opposite)
	}
	source.Shuffle(len(batch), func(i, j int) { batch[i], batch[j] = batch[j], batch[i] })
	return batch
}

// places returns each account and currency that randomPost may name.
func places() []impl.Post {
	var l []impl.Post
	for class := int64(1); class <= 3; class++ {
		for id := int64(0); id <= 3; id++ {
			for sub := int64(1); sub <= 5; sub++ {
				for cur := range int64(6) {
					p := impl.Post{A: impl.Acct{Class: class, Id: id, Sub: sub}, Cur: cur}
					if impl.AcctOk(p.A) {
						l = append(l, p)
					}
				}
			}
		}
	}
	return l
}

func TestPostedAddsToBalances(t *testing.T) {
	source := rand.New(rand.NewSource(5))
	every := places()
	var l []impl.Post
	for range 1000 {
		batch := randomBatch(source)
		next, code := impl.Posted(l, batch)
		if code != impl.PsOk || !impl.LedgerOk(next) {
			t.Fatalf("Posted(%v, %v) = %v, %d", l, batch, next, code)
		}
		var want []impl.Post
		for _, p := range every { // which are in the order of a ledger
			p.N = impl.BalanceOf(l, p.A, p.Cur)
			for _, b := range batch {
				if b.A == p.A && b.Cur == p.Cur {
					p.N += b.N
				}
			}
			if n := impl.BalanceOf(next, p.A, p.Cur); n != p.N {
				t.Fatalf("the balance of %v after %v is %d", p, batch, n)
			}
			if p.N != 0 {
				want = append(want, p)
			}
		}
		if !slices.Equal(next, want) {
			t.Fatalf("Posted(%v, %v) = %v; want %v", l, batch, next, want)
		}
		if s := impl.Trial(next); !slices.Equal(s, make([]int64, 6)) {
			t.Fatalf("the sums after %v: %v", batch, s)
		}
		l = next
	}
}

func TestPostedLeavesSumsUnchanged(t *testing.T) {
	source := rand.New(rand.NewSource(6))
	for range 2000 {
		l := []impl.Post{{A: impl.Acct{Class: 1, Id: 1, Sub: 1}, Cur: source.Int63n(6), N: source.Int63n(9) + 1}, {A: held, Cur: source.Int63n(6), N: -source.Int63n(9) - 1}}
		next, code := impl.Posted(l, randomBatch(source))
		if code != impl.PsOk || !slices.Equal(impl.Trial(next), impl.Trial(l)) {
			t.Fatalf("from %v to %v, %d", l, next, code)
		}
		sums := make([]int64, 6)
		for cur := range sums {
			for class := int64(1); class <= 3; class++ {
				sums[cur] += impl.ClassSum(next, class, int64(cur))
			}
		}
		if !slices.Equal(sums, impl.Trial(next)) {
			t.Fatalf("the sums of the classes of %v: %v", next, sums)
		}
	}
}

func TestPostedAgain(t *testing.T) {
	l, batch := consumers(390), []impl.Post{{A: cash, N: 3}, {A: held, N: -3}, {A: exchange, Cur: 5, N: 3}, {A: discounts, Cur: 5, N: -3}}
	first, _ := impl.Posted(l, batch)
	for range 20 {
		if again, code := impl.Posted(l, batch); code != impl.PsOk || !slices.Equal(first, again) {
			t.Fatal("equal arguments:", first, again)
		}
	}
}

func TestLedgersLeaveTheirArguments(t *testing.T) {
	spare := impl.Post{A: impl.Acct{Class: 77}, Cur: 78, N: 79}
	ledger := []impl.Post{{A: owed, N: 100}, {A: payable, N: -90}, {A: discounts, N: -10}, spare, spare, spare, spare}
	batches := []impl.Post{{A: cash, N: 100}, {A: owed, N: -100}, spare, spare}
	ledgerBefore, batchBefore := slices.Clone(ledger), slices.Clone(batches)
	l, batch := ledger[:3], batches[:2]
	for _, b := range [][]impl.Post{batch, nil, batch[:1], batches} {
		impl.Posted(l, b)
		impl.Posted(ledger, b)
	}
	impl.LedgerOk(l)
	impl.BalanceOf(l, owed, 0)
	impl.ClassSum(l, 1, 0)
	impl.Trial(l)
	first, _ := impl.Posted(l, batch)
	second, _ := impl.Posted(l, batch)
	same, _ := impl.Posted(l, nil)
	trial, trialAgain := impl.Trial(l), impl.Trial(l)
	if !slices.Equal(ledger, ledgerBefore) || !slices.Equal(batches, batchBefore) {
		t.Fatal("an argument changed:", ledger, batches)
	}
	for _, result := range [][]impl.Post{first, same} {
		result = result[:cap(result)]
		for i := range result {
			result[i] = spare
		}
	}
	trial[0] = 99
	if !slices.Equal(ledger, ledgerBefore) || !slices.Equal(batches, batchBefore) {
		t.Fatal("a result shares memory with an argument:", ledger, batches)
	}
	if second[0] == spare || trialAgain[0] == 99 {
		t.Fatal("two results share memory")
	}
}
