// Package tests is run by TestLesserLimits on a copy of the program in which MaxRates is 3, MaxMoney is 1000000 and MaxBalance is 2000000.
package tests

import (
	"fmt"
	"slices"
	"testing"

	"loop.example/g00714/impl"
)

func commandsOf(t *testing.T, texts []string) []impl.Cmd {
	t.Helper()
	var list []impl.Cmd
	for i, text := range texts {
		c, ok := impl.ReadCmd(fmt.Sprintf("k%d %s", i, text))
		if !ok {
			t.Fatalf("%q is not the text of a command", text)
		}
		list = append(list, c)
	}
	return list
}

// shop has three consumers with an order of 1000000 each, all of a merchant without discount or reserve, and a small order.
func shop(texts ...string) []string {
	return slices.Concat([]string{
		"consumer 1 1000000", "consumer 2 1000000", "consumer 3 1000000", "consumer 4 1000000", "merchant 1 0 0", "merchant 2 0 10000",
		"order 1 1 1 0 1 0 2x500000", "order 2 2 1 0 1 0 2x500000", "order 3 3 1 0 1 0 2x500000", "order 4 4 1 0 1 0 10x1",
	}, texts)
}

// sold has the three orders shipped, their price paid out, and paid by their consumers, so that cash is 0.
func sold(texts ...string) []string {
	return slices.Concat(shop(
		"ship 1 0 2", "payout 1 0", "pay 1 0 1000000",
		"ship 2 0 2", "payout 1 0", "pay 2 0 1000000",
		"ship 3 0 2", "payout 1 0", "pay 3 0 1000000",
	), texts)
}

// owing has a consumer 2 who owes 2000000, which are due in 12 Parts, and a consumer 1 who owes 10.
func owing(first, second int) []string {
	return []string{
		"consumer 1 1000000", "consumer 2 1000000", "merchant 1 0 0",
		fmt.Sprintf("order %d 1 1 0 1 0 1x10", first), fmt.Sprintf("order %d 2 1 0 12 10000 2x500000", second),
		fmt.Sprintf("ship %d 0 1", first), fmt.Sprintf("ship %d 0 1", second), fmt.Sprintf("ship %d 0 1", second),
	}
}

// checkLast plays commands of which all but the last one are accepted, and n is the N of that one.
func checkLast(t *testing.T, name string, texts []string, code int64, n int64) {
	t.Helper()
	list := commandsOf(t, texts)
	last := len(list) - 1
	before, answers := impl.Play(list[:last])
	for i, a := range answers {
		if a.Code != impl.SvOk {
			t.Fatalf("%s: %q is answered with %v", name, texts[i], a)
		}
	}
	after, answers := impl.Play(list)
	if answers[last] != (impl.Answer{Code: code, N: n}) {
		t.Errorf("%s: %q is answered with %v, not with %d and %d", name, texts[last], answers[last], code, n)
	}
	// Compared as texts, because an empty list and a nil list are the same value.
	if changed := fmt.Sprint(before) != fmt.Sprint(after); changed != (code == impl.SvOk) {
		t.Errorf("%s: %q, with the code %d, leads from\n%+v to\n%+v", name, texts[last], code, before, after)
	}
	if !slices.Equal(impl.Trial(after.Ledger), make([]int64, 6)) {
		t.Errorf("%s: the ledger %v", name, after.Ledger)
	}
}

func TestLimits(t *testing.T) {
	if impl.MaxRates != 3 || impl.MaxMoney != 1000000 || impl.MaxBalance != 2000000 {
		t.Error("the limits are others")
	}
}

func TestRates(t *testing.T) {
	rates := []string{"rate 1 0 1 2", "rate 1 0 2 3", "day 5", "rate 2 0 1 2"}
	checkLast(t, "the last rate", rates, impl.SvOk, 0)
	checkLast(t, "no room for a rate", append(rates, "rate 1 0 1 2"), impl.SvRate, 0)
}

func TestPostings(t *testing.T) {
	full := shop("pay 1 0 1000000", "pay 1 0 1000000")
	// The merchant is to receive 2000000, in the second list with as many plans of the small order as there can be.
	payable := shop("ship 1 0 2", "ship 2 0 2")
	plans := slices.Concat([]string{"consumer 5 999992", "order 5 5 1 0 1 0 2x499996", "ship 5 0 2"}, slices.Repeat([]string{"ship 4 0 1"}, impl.MaxItems))
	released := shop("order 5 4 2 0 1 0 2x400000", "ship 5 0 2", "release 2 0 800000", "payout 2 0")
	for _, r := range []struct {
		name  string
		setup []string
		text  string
		code  int64
		n     int64
	}{
		{"as much payable as possible", shop("ship 1 0 2"), "ship 2 0 2", impl.SvOk, 1000000},
		{"too much payable", payable, "ship 4 0 1", impl.SvFull, 0},
		{"no further plan, and too much payable", append(shop("ship 2 0 2"), plans...), "ship 4 0 1", impl.SvPlan, 0},
		{"as much cash as possible", shop("pay 1 0 1000000"), "pay 2 0 1000000", impl.SvOk, 1000000},
		{"too much cash", full, "pay 2 0 1", impl.SvFull, 0},
		{"too much cash of another currency", shop("rate 1 0 1 1", "pay 1 1 1000000", "pay 1 1 1000000"), "pay 2 1 1", impl.SvFull, 0},
		{"too much exchange", shop("rate 1 0 1 1", "rate 2 0 1 1", "pay 1 1 1000000", "pay 1 1 1000000"), "pay 2 2 1", impl.SvFull, 0},
		{"as much refunded as possible", sold("refund 1 0 2"), "refund 2 0 2", impl.SvOk, 1000000},
		{"too much refunded", sold("refund 1 0 2", "refund 2 0 2"), "refund 3 0 1", impl.SvFull, 0},
		{"as much upheld as possible", sold("refund 1 0 2", "refund 2 0 1", "dispute 2 500000"), "rule 2 1", impl.SvOk, 500000},
		{"too much upheld", sold("refund 1 0 2", "refund 2 0 2", "dispute 3 1"), "rule 3 1", impl.SvFull, 0},
		{"too much, but against the consumer", sold("refund 1 0 2", "refund 2 0 2", "dispute 3 1"), "rule 3 0", impl.SvOk, 0},
		{"as much paid out as possible", shop("ship 1 0 2", "payout 1 0", "ship 2 0 2"), "payout 1 0", impl.SvOk, 1000000},
		{"too much paid out", shop("ship 1 0 2", "payout 1 0", "ship 2 0 2", "payout 1 0", "ship 4 0 1"), "payout 1 0", impl.SvFull, 0},
		{"more payable than an amount", payable, "payout 1 0", impl.SvAmount, 0},
		{"more payable than an amount by one", shop("ship 1 0 2", "ship 4 0 1"), "payout 1 0", impl.SvAmount, 0},
		{"more payable than an amount, and than cash", append(slices.Clone(released), "ship 1 0 2", "payout 1 0", "ship 2 0 2", "ship 3 0 1"), "payout 1 0", impl.SvAmount, 0},
		{"a payoff as great as possible", shop("ship 1 0 1", "ship 1 0 1"), "payoff 1", impl.SvOk, 1000000},
		{"a payoff and too much cash", append(slices.Clone(full), "ship 4 0 1"), "payoff 4", impl.SvFull, 0},
	} {
		checkLast(t, r.name, append(slices.Clone(r.setup), r.text), r.code, r.n)
	}
}

func TestRelease(t *testing.T) {
	setup := []string{
		"consumer 1 1000000", "consumer 2 1000000", "consumer 3 1000000", "merchant 1 0 10000",
		"order 1 1 1 0 1 0 2x500000", "order 2 2 1 0 1 0 2x500000", "order 3 3 1 0 1 0 10x1",
		"ship 1 0 2", "ship 2 0 2", "release 1 0 1000000",
	}
	checkLast(t, "as much payable as possible", append(slices.Clone(setup), "release 1 0 1000000"), impl.SvOk, 1000000)
	checkLast(t, "too much payable", append(slices.Clone(setup), "release 1 0 1000000", "ship 3 0 1", "release 1 0 1"), impl.SvFull, 0)
	checkLast(t, "more than is held, and too much payable", append(slices.Clone(setup), "release 1 0 1000000", "ship 3 0 1", "release 1 0 2"), impl.SvAmount, 0)
}

func TestInterest(t *testing.T) {
	// Both pieces bear an interest of 41667, so that more than an amount is owed.
	setup := []string{"consumer 1 1000000", "merchant 1 0 0", "order 1 1 1 0 1 10000 2x500000", "ship 1 0 1", "ship 1 0 1"}
	checkLast(t, "a price and interest beyond an amount", append(slices.Clone(setup[:3]), "ship 1 0 2"), impl.SvFull, 0)
	checkLast(t, "a payoff of an amount, for more than that", append(slices.Clone(setup), "payoff 1"), impl.SvFull, 0)
	checkLast(t, "a payoff of more than an amount", append(slices.Clone(setup), "day 31", "payoff 1"), impl.SvAmount, 0)
	checkLast(t, "a payoff of an amount and interest", append(slices.Clone(setup), "day 31", "pay 1 0 83334", "payoff 1"), impl.SvOk, 1000000)
	checkLast(t, "a payoff of an amount, one and interest", append(slices.Clone(setup), "day 31", "pay 1 0 83333", "payoff 1"), impl.SvAmount, 0)
}

// TestDays has a consumer 2 who owes as much as possible, so that there is no room for a late fee.
func TestDays(t *testing.T) {
	for _, r := range []struct{ first, second int }{{1, 2}, {2, 1}} {
		setup := owing(r.first, r.second)
		if r.first > r.second { // the order without room comes first in the list
			setup[3], setup[4] = setup[4], setup[3]
		}
		name := fmt.Sprint("the orders ", r.first, " and ", r.second)
		checkLast(t, name, append(slices.Clone(setup), "day 36"), impl.SvOk, 0)
		checkLast(t, name, append(slices.Clone(setup), "day 37"), impl.SvFull, 0)
		room := func(n int) []string { return append(slices.Clone(setup), fmt.Sprintf("pay %d 0 %d", r.second, n)) }
		checkLast(t, name, append(room(999), "day 37"), impl.SvFull, 0)
		checkLast(t, name, append(room(1000), "day 37"), impl.SvOk, 2)
		checkLast(t, name, append(room(1000), "day 65"), impl.SvFull, 0)
	}
}
