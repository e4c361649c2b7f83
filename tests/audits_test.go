package tests

import (
	"fmt"
	"math/rand"
	"slices"
	"testing"

	"loop.example/g00714/impl"
)

func consumerAcct(id, sub int64) impl.Acct {
	return impl.Acct{Class: impl.ClConsumer, Id: id, Sub: sub}
}

func merchantAcct(id, sub int64) impl.Acct {
	return impl.Acct{Class: impl.ClMerchant, Id: id, Sub: sub}
}

// moved posts n to one account and -n to another one.
func moved(t *testing.T, w *impl.World, to, from impl.Acct, cur, n int64) {
	t.Helper()
	l, code := impl.Posted(w.Ledger, []impl.Post{{A: to, Cur: cur, N: n}, {A: from, Cur: cur, N: -n}})
	if code != impl.PsOk {
		t.Fatalf("%d from %v to %v: %d", n, from, to, code)
	}
	w.Ledger = l
}

// changedAlone returns the ledger in which one balance is greater by n.
func changedAlone(l []impl.Post, a impl.Acct, cur, n int64) []impl.Post {
	result := slices.Clone(l)
	same := func(p impl.Post) bool { return p.A == a && p.Cur == cur }
	if i := slices.IndexFunc(result, same); i >= 0 {
		result[i].N += n
		if result[i].N == 0 {
			result = slices.Delete(result, i, i+1)
		}
		return result
	}
	p := impl.Post{A: a, Cur: cur, N: n}
	for i := range len(result) + 1 {
		if longer := slices.Insert(slices.Clone(result), i, p); impl.LedgerOk(longer) {
			return longer
		}
	}
	return nil
}

func checkAudit(t *testing.T, name string, w impl.World, want int64) {
	t.Helper()
	if got := impl.Audited(w); got != want {
		t.Errorf("%s: Audited returns %d, not %d", name, got, want)
	}
}

func exampleWorld(t *testing.T) impl.World { return worldOf(t, auditExample(t)) }

// tradeWorld has the consumers 7, 8 and 9 and the merchants 3, 4 and 5; the last ones are without orders.
func tradeWorld(t *testing.T) impl.World {
	t.Helper()
	return worldOf(t, commandsOf(t, append(everyKind(), "consumer 9 0", "merchant 5 0 0")))
}

func TestAuditExample(t *testing.T) {
	w := exampleWorld(t)
	checkAudit(t, "the example", w, impl.AuOk)
	if !impl.WorldOk(w) || !slices.Equal(impl.Totals(w, 0), []int64{1500, -1800, 300}) {
		t.Error(impl.WorldOk(w), impl.Totals(w, 0))
	}
	for i := range w.Ledger {
		for _, n := range []int64{1, -1, 1000} {
			x := w
			x.Ledger = slices.Clone(w.Ledger)
			x.Ledger[i].N += n
			checkAudit(t, fmt.Sprintf("the Post %d is changed by %d", i, n), x, impl.AuTrial)
		}
	}
}

func TestAuditOfNothing(t *testing.T) {
	for name, w := range map[string]impl.World{
		"nothing":                {},
		"empty lists":            {Consumers: []impl.Consumer{}, Merchants: []impl.Merchant{}, Orders: []impl.Order{}, Ledger: []impl.Post{}},
		"the last day":           {Day: impl.MaxDay},
		"people without orders":  {Consumers: []impl.Consumer{{Id: 7}}, Merchants: []impl.Merchant{{Id: 3}}},
		"what no command leaves": {Done: []impl.Done{{Key: "a", Answer: impl.Answer{N: 5}}}, Ledger: []impl.Post{{A: payable, N: 5}, {A: cash, N: -5}}},
	} {
		checkAudit(t, name, w, impl.AuOk)
	}
}

func TestAuditTrial(t *testing.T) {
	w := tradeWorld(t)
	checkAudit(t, "a world of Play", w, impl.AuOk)
	for _, a := range []impl.Acct{payable, cash, discounts, exchange, fees, interest, merchantAcct(900, 1)} {
		for cur := range int64(6) {
			for _, n := range []int64{1, -1, 99999} {
				x := w
				x.Ledger = changedAlone(w.Ledger, a, cur, n)
				checkAudit(t, fmt.Sprintf("%v in %d is changed by %d", a, cur, n), x, impl.AuTrial)
			}
		}
	}
	// The sum of all currencies is 0, but those of two of them are not.
	x := w
	x.Ledger = changedAlone(changedAlone(w.Ledger, cash, 0, 5), cash, 1, -5)
	checkAudit(t, "5 USD became 5 EUR", x, impl.AuTrial)
	great := impl.World{Ledger: consumers(400)}
	for i := range great.Ledger {
		great.Ledger[i].N = mostBalance
	}
	checkAudit(t, "the greatest sum", great, impl.AuTrial)
}

func TestAuditOwed(t *testing.T) {
	w := tradeWorld(t)
	for _, id := range []int64{7, 8, 9} {
		for cur := range int64(6) {
			for _, n := range []int64{1, -1, 5, -99999} {
				x := w
				moved(t, &x, consumerAcct(id, 1), discounts, cur, n)
				checkAudit(t, fmt.Sprintf("%d owes %d more in %d", id, n, cur), x, impl.AuOwed)
			}
		}
	}
	x := w
	moved(t, &x, consumerAcct(7, 1), consumerAcct(8, 1), 0, 5)
	checkAudit(t, "one owes what another one should", x, impl.AuOwed)
	x = w
	moved(t, &x, consumerAcct(7, 1), cash, 0, 5)
	moved(t, &x, consumerAcct(7, 1), cash, 1, -5)
	checkAudit(t, "they owe another currency", x, impl.AuOwed)
	x = w
	moved(t, &x, consumerAcct(7, 1), credit, 1, 5)
	checkAudit(t, "they owe what is their credit", x, impl.AuOwed)
	x = w
	x.Orders = slices.Clone(w.Orders)
	x.Orders[0].Cur = 3
	checkAudit(t, "an order of another currency", x, impl.AuOwed)
	x.Orders[0].Cur, x.Orders[0].Consumer = w.Orders[0].Cur, 9
	checkAudit(t, "an order of another consumer", x, impl.AuOwed)
	x.Orders = x.Orders[1:]
	checkAudit(t, "an order less", x, impl.AuOwed)
	x = w
	moved(t, &x, merchantAcct(7, 1), cash, 0, 5)
	moved(t, &x, consumerAcct(7, 2), cash, 0, -5)
	moved(t, &x, merchantAcct(9, 2), cash, 0, -5)
	checkAudit(t, "other accounts have nothing to do with what is owed", x, impl.AuOk)
}

// TestAuditUnpaid changes one Part of a plan and what is owed.
func TestAuditUnpaid(t *testing.T) {
	for _, r := range []struct {
		name   string
		change func(*impl.Part)
		more   int64
	}{
		{"nothing", func(p *impl.Part) {}, 0},
		{"interest", func(p *impl.Part) { p.I += 30 }, 30},
		{"fees", func(p *impl.Part) { p.F += 30 }, 30},
		{"paid price", func(p *impl.Part) { p.PaidP += 30 }, -30},
		{"paid interest", func(p *impl.Part) { p.I, p.PaidI = p.I+30, p.PaidI+30 }, 0},
		{"paid fees", func(p *impl.Part) { p.F, p.PaidF = p.F+30, p.PaidF+20 }, 10},
		{"all of them", func(p *impl.Part) { p.I, p.F, p.PaidP = p.I+1, p.F+2, p.PaidP+4 }, -1},
	} {
		for _, difference := range []int64{0, 1, -1, 30} {
			for part := range 2 {
				w := worldOf(t, commandsOf(t, shipped2("order 2 7 3 0 1 0 9x10", "ship 2 0 3", "pay 1 0 20")))
				r.change(&w.Orders[0].Plans[0].Parts[part])
				if n := r.more + difference; n != 0 {
					moved(t, &w, owed, cash, 0, n)
				}
				want := int64(impl.AuOk)
				if difference != 0 {
					want = impl.AuOwed
				}
				checkAudit(t, fmt.Sprintf("%s of the Part %d, and %d more", r.name, part, difference), w, want)
			}
		}
	}
}

func TestAuditLimit(t *testing.T) {
	w := tradeWorld(t)
	for i, c := range w.Consumers {
		exposure := exposureIn(w, c.Id)
		for n, want := range map[int64]int64{exposure: impl.AuOk, exposure + 1: impl.AuOk, most: impl.AuOk, exposure - 1: impl.AuLimit, exposure / 2: impl.AuLimit, 0: impl.AuLimit} {
			if exposure == 0 && n == 0 {
				want = impl.AuOk
			}
			if n < 0 {
				want = impl.AuForm
			}
			x := w
			x.Consumers = slices.Clone(w.Consumers)
			x.Consumers[i].Limit = n
			checkAudit(t, fmt.Sprintf("the limit %d of %d, whose exposure is %d", n, c.Id, exposure), x, want)
		}
	}
	if exposureIn(w, 7) < 1000 || exposureIn(w, 8) < 1000 || exposureIn(w, 9) != 0 {
		t.Error("exposures:", w.Orders)
	}
}

// TestAuditExposures has nothing shipped, so that the exposure is the value in EUR.
func TestAuditExposures(t *testing.T) {
	ordered := func(num, den int64, items ...impl.Item) impl.Order {
		o := plainOrder(1, 7, 3, 0)
		o.Cur, o.Num, o.Den, o.Items = 2, num, den, items
		return o
	}
	great := slices.Repeat([]impl.Item{{Qty: 1000, Price: 1000000}}, impl.MaxItems)
	piece, million := impl.Item{Qty: 1, Price: 1}, impl.Item{Qty: 1, Price: 1000000}
	for _, r := range []struct {
		name     string
		orders   []impl.Order
		exposure int64
	}{
		{"one piece", []impl.Order{ordered(1, 1, piece)}, 1},
		{"a half of 1 is 0", []impl.Order{ordered(1, 2, piece)}, 0},
		{"a half of 3 is 2", []impl.Order{ordered(1, 2, impl.Item{Qty: 3, Price: 1})}, 2},
		{"each order is rounded alone", []impl.Order{ordered(3, 2, piece), ordered(3, 2, piece)}, 4},
		{"the greatest value", []impl.Order{ordered(1, 1, great...)}, 8000000000},
		{"MaxMoney", []impl.Order{ordered(1000000, 1, million)}, most},
		// For more than MaxMoney MulDiv returns 0 and false.
		{"more than MaxMoney", []impl.Order{ordered(1000000, 1, million, piece)}, 0},
		{"far more than MaxMoney", []impl.Order{ordered(1000000, 1, great...)}, 0},
		{"more than MaxMoney, and one piece", []impl.Order{ordered(1000000, 1, great...), ordered(1, 1, piece)}, 1},
	} {
		w := impl.World{Merchants: []impl.Merchant{{Id: 3}}}
		for i, o := range r.orders {
			o.Id = int64(i + 1)
			w.Orders = append(w.Orders, o)
		}
		for _, limit := range []int64{r.exposure - 1, r.exposure, min(r.exposure+1, most)} {
			w.Consumers = []impl.Consumer{{Id: 7, Limit: limit}}
			want := int64(impl.AuOk)
			switch {
			case limit < 0:
				want = impl.AuForm
			case limit < r.exposure:
				want = impl.AuLimit
			}
			checkAudit(t, fmt.Sprintf("%s, with the limit %d", r.name, limit), w, want)
		}
	}
	// Two orders of MaxMoney exceed all limits.
	w := impl.World{Merchants: []impl.Merchant{{Id: 3}}, Consumers: []impl.Consumer{{Id: 7, Limit: most}}, Orders: []impl.Order{ordered(1000000, 1, million), ordered(1000000, 1, million)}}
	w.Orders[1].Id = 2
	checkAudit(t, "twice MaxMoney", w, impl.AuLimit)
	w.Consumers, w.Orders[1].Consumer = append(w.Consumers, impl.Consumer{Id: 8, Limit: most}), 8
	checkAudit(t, "MaxMoney of two consumers", w, impl.AuOk)
}

func TestAuditSign(t *testing.T) {
	people := impl.World{Consumers: []impl.Consumer{{Id: 7}, {Id: 8}}, Merchants: []impl.Merchant{{Id: 3}, {Id: 7}, {Id: 4}}}
	rows := map[impl.Acct]bool{
		credit: true, consumerAcct(8, 2): true, held: true, merchantAcct(7, 2): true, merchantAcct(4, 2): true,
		payable: false, merchantAcct(7, 1): false, fees: false, interest: false, exchange: false, discounts: false,
	}
	for a, audited := range rows {
		for cur := range int64(6) {
			for n, code := range map[int64]int64{1: impl.AuSign, 0: impl.AuOk, -1: impl.AuOk, most: impl.AuSign, -most: impl.AuOk} {
				w := people
				if n != 0 {
					moved(t, &w, a, cash, cur, n)
				}
				if !audited {
					code = impl.AuOk
				}
				checkAudit(t, fmt.Sprintf("%v is %d in %d", a, n, cur), w, code)
			}
		}
	}
	// From a balance of a world of Play to -1, 0 and 1.
	w := tradeWorld(t)
	for _, p := range w.Ledger {
		if p.A != credit && p.A != held {
			continue
		}
		for n, want := range map[int64]int64{-1: impl.AuOk, 0: impl.AuOk, 1: impl.AuSign} {
			x := w
			moved(t, &x, p.A, cash, p.Cur, n-p.N)
			checkAudit(t, fmt.Sprintf("%v is %d in %d", p.A, n, p.Cur), x, want)
		}
	}
	w = people
	moved(t, &w, credit, cash, 0, -5)
	moved(t, &w, credit, cash, 4, 5)
	checkAudit(t, "a credit that is positive in another currency", w, impl.AuSign)
}

// TestAuditOfNobody has accounts of persons who are not in the world: the audit is of consumers and merchants that exist.
func TestAuditOfNobody(t *testing.T) {
	for _, a := range []impl.Acct{consumerAcct(900, 1), consumerAcct(900, 2), merchantAcct(900, 1), merchantAcct(900, 2), consumerAcct(3, 1), merchantAcct(7, 2)} {
		for _, n := range []int64{5, -5} {
			w := exampleWorld(t)
			moved(t, &w, a, cash, 0, n)
			checkAudit(t, fmt.Sprintf("%v is %d", a, n), w, impl.AuOk)
		}
	}
}

// TestFirstFinding applies each set of faults; that with the least code is found.
func TestFirstFinding(t *testing.T) {
	faults := []struct {
		code  int64
		apply func(*impl.World)
	}{
		{impl.AuForm, func(w *impl.World) { w.Day = -1 }},
		{impl.AuTrial, func(w *impl.World) { w.Ledger = changedAlone(w.Ledger, cash, 0, 1) }},
		{impl.AuOwed, func(w *impl.World) { w.Ledger = changedAlone(changedAlone(w.Ledger, owed, 0, 1), discounts, 0, -1) }},
		{impl.AuLimit, func(w *impl.World) { w.Consumers = []impl.Consumer{{Id: 7, Limit: 2499}} }},
		{impl.AuSign, func(w *impl.World) { w.Ledger = changedAlone(changedAlone(w.Ledger, credit, 0, 1), interest, 0, -1) }},
	}
	for set := range 1 << len(faults) {
		w, want := exampleWorld(t), int64(impl.AuOk)
		for i := len(faults) - 1; i >= 0; i-- {
			if set>>i&1 == 1 {
				faults[i].apply(&w)
				want = faults[i].code
			}
		}
		checkAudit(t, fmt.Sprintf("the faults %05b", set), w, want)
	}
	// The fault of the later code is that of an earlier element.
	w := tradeWorld(t)
	w.Consumers = slices.Clone(w.Consumers)
	w.Consumers[0].Limit = 0
	checkAudit(t, "the limit of the first consumer", w, impl.AuLimit)
	moved(t, &w, merchantAcct(5, 2), cash, 0, 1)
	checkAudit(t, "and held of the last merchant", w, impl.AuLimit)
	moved(t, &w, consumerAcct(9, 1), cash, 5, 1)
	checkAudit(t, "and what the last consumer owes", w, impl.AuOwed)
	w.Ledger = changedAlone(w.Ledger, exchange, 5, 1)
	checkAudit(t, "and the sum of the last currency", w, impl.AuTrial)
	w.Done = append(slices.Clone(w.Done), impl.Done{})
	checkAudit(t, "and the last Done", w, impl.AuForm)
}

func classSum(w impl.World, class, cur int64) int64 {
	n := int64(0)
	for _, p := range w.Ledger {
		if p.A.Class == class && p.Cur == cur {
			n += p.N
		}
	}
	return n
}

func checkTotals(t *testing.T, name string, w impl.World) {
	t.Helper()
	for cur := range int64(6) {
		want := []int64{classSum(w, 1, cur), classSum(w, 2, cur), classSum(w, 3, cur)}
		if got := impl.Totals(w, cur); !slices.Equal(got, want) {
			t.Errorf("%s: Totals of %d = %v, not %v", name, cur, got, want)
		}
	}
	for _, cur := range append([]int64{6, 7, -2}, extremes...) {
		if got := impl.Totals(w, cur); len(got) != 0 {
			t.Errorf("%s: Totals of %d = %v", name, cur, got)
		}
	}
}

func TestTotals(t *testing.T) {
	w := tradeWorld(t)
	checkTotals(t, "a world of Play", w)
	checkTotals(t, "nothing", impl.World{})
	checkTotals(t, "everything", greatWorld())
	w.Ledger = changedAlone(changedAlone(w.Ledger, owed, 0, 77), cash, 5, -8)
	checkTotals(t, "a valid world that is not audited", w)
	if impl.Audited(w) != impl.AuTrial {
		t.Error("the sums are 0")
	}
	great := impl.World{Ledger: consumers(400)}
	for i := range great.Ledger {
		great.Ledger[i].N = -mostBalance
	}
	if got := impl.Totals(great, 0); !slices.Equal(got, []int64{-400 * mostBalance, 0, 0}) {
		t.Error("the greatest sums:", got)
	}
}

// TestOwedChangedAlone is of the promise 10, with lists of all kinds of commands.
func TestOwedChangedAlone(t *testing.T) {
	source := rand.New(rand.NewSource(101))
	changes := 0
	for range 40 {
		list := randomList(t, source)
		for n := 0; n <= len(list); n += 4 {
			w, _ := impl.Play(list[:n])
			checkAudit(t, "a world of Play", w, impl.AuOk)
			for cur := range int64(6) {
				if totals := impl.Totals(w, cur); sum(totals) != 0 || len(totals) != 3 || totals[0] != classSum(w, 1, cur) || totals[1] != classSum(w, 2, cur) {
					t.Errorf("the totals of %d are %v", cur, totals)
				}
			}
			for _, c := range w.Consumers {
				cur, n := source.Int63n(4), []int64{1, -1, 1 + source.Int63n(5000), -1 - source.Int63n(5000)}[source.Intn(4)]
				x := w
				x.Ledger = changedAlone(w.Ledger, consumerAcct(c.Id, 1), cur, n)
				checkAudit(t, fmt.Sprintf("%d owes %d more in %d", c.Id, n, cur), x, impl.AuTrial)
				moved(t, &w, consumerAcct(c.Id, 1), cash, cur, n)
				checkAudit(t, "and there is more cash", w, impl.AuOwed)
				moved(t, &w, cash, consumerAcct(c.Id, 1), cur, n)
				checkAudit(t, "and back", w, impl.AuOk)
				changes++
			}
		}
		if t.Failed() {
			t.Fatal(list)
		}
	}
	if changes < 500 {
		t.Error("changes:", changes)
	}
}
