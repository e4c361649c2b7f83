package tests

import (
	"fmt"
	"math"
	"reflect"
	"slices"
	"testing"

	"loop.example/g00714/impl"
)

var (
	fees     = impl.Acct{Class: impl.ClPlatform, Sub: 3}
	interest = impl.Acct{Class: impl.ClPlatform, Sub: 4}
)

// commandsOf reads commands whose texts are without their Keys, which are k0, k1 and so on.
func commandsOf(t *testing.T, texts []string) []impl.Cmd {
	t.Helper()
	list := make([]impl.Cmd, len(texts))
	for i, text := range texts {
		list[i] = commandWithKey(t, fmt.Sprintf("k%d %s", i, text))
	}
	return list
}

func commandWithKey(t *testing.T, text string) impl.Cmd {
	t.Helper()
	c, ok := impl.ReadCmd(text)
	if !ok {
		t.Fatalf("%q is not the text of a command", text)
	}
	return c
}

// shop begins a list of commands with a consumer and a merchant.
func shop(texts ...string) []string {
	return slices.Concat([]string{"consumer 7 100000", "merchant 3 1000 2000"}, texts)
}

// shipped2 has an order in EUR, of which 2 pieces of 1000 were shipped on day 0: 1000 and an interest of 20 are due on each of the days 31 and 59.
func shipped2(texts ...string) []string {
	return slices.Concat(shop("order 1 7 3 0 2 1200 3x1000 1x501", "ship 1 0 2"), texts)
}

// numbered returns n texts with the numbers 1..n.
func numbered(format string, n int) []string {
	var texts []string
	for i := range n {
		texts = append(texts, fmt.Sprintf(format, i+1))
	}
	return texts
}

// fullShop has as many orders as there can be.
func fullShop() []string { return shop(numbered("order %d 7 3 0 1 0 1x1", impl.MaxPeople)...) }

// manyPlans has an order with as many plans as there can be.
func manyPlans() []string {
	return shop(slices.Concat([]string{"order 1 7 3 0 2 0 20x10"}, slices.Repeat([]string{"ship 1 0 1"}, impl.MaxItems))...)
}

// worldOf plays a list of commands that are all accepted.
func worldOf(t *testing.T, list []impl.Cmd) impl.World {
	t.Helper()
	w, answers := impl.Play(list)
	if len(answers) != len(list) {
		t.Fatalf("%d commands have %d answers", len(list), len(answers))
	}
	for i, a := range answers {
		if a.Code != impl.SvOk {
			t.Fatalf("the command %d, %v, is answered with %v", i, list[i], a)
		}
	}
	return w
}

// tidyWorld returns a copy in which empty lists are nil, as they are the same value.
func tidyWorld(w impl.World) impl.World {
	w.Rates = append([]impl.Rate(nil), w.Rates...)
	w.Consumers = append([]impl.Consumer(nil), w.Consumers...)
	w.Merchants = append([]impl.Merchant(nil), w.Merchants...)
	w.Ledger = append([]impl.Post(nil), w.Ledger...)
	w.Done = append([]impl.Done(nil), w.Done...)
	orders := w.Orders
	w.Orders = nil
	for _, o := range orders {
		w.Orders = append(w.Orders, tidy(o))
	}
	return w
}

func sameWorld(a, b impl.World) bool { return reflect.DeepEqual(tidyWorld(a), tidyWorld(b)) }

// checkWorld checks what holds after each command.
func checkWorld(t *testing.T, w impl.World) {
	t.Helper()
	if !impl.LedgerOk(w.Ledger) || !slices.Equal(impl.Trial(w.Ledger), make([]int64, 6)) {
		t.Errorf("the ledger %v", w.Ledger)
	}
	owes, exposures := map[impl.Post]int64{}, map[int64]int64{}
	for _, o := range w.Orders {
		open, ok := impl.MulDiv(impl.OpenOf(o), o.Num, o.Den)
		if !ok || !impl.OrderOk(o) {
			t.Errorf("the order %+v", o)
		}
		exposures[o.Consumer] += open
		owes[impl.Post{A: impl.Acct{Class: impl.ClConsumer, Id: o.Consumer, Sub: 1}, Cur: o.Cur}] += unpaidSum(impl.OrderSums(o))
	}
	for _, p := range w.Ledger {
		if p.A.Class == impl.ClConsumer && p.A.Sub == 1 {
			owes[impl.Post{A: p.A, Cur: p.Cur}] -= p.N
		}
		if p.A.Sub == 2 && p.A.Class != impl.ClPlatform && p.N > 0 {
			t.Errorf("%v is credit or held, and positive", p)
		}
	}
	for place, difference := range owes {
		if difference != 0 {
			t.Errorf("what %v owes in %d differs from the plans by %d", place.A, place.Cur, difference)
		}
	}
	for _, c := range w.Consumers {
		if exposures[c.Id] > c.Limit {
			t.Errorf("the exposure %d of %v", exposures[c.Id], c)
		}
	}
}

type balance struct {
	a      impl.Acct
	cur, n int64
}

// appliedRow is a command that is accepted after those of the setup. A change is what it does beside posting and beside its Done.
type appliedRow struct {
	name   string
	setup  []string
	text   string
	n      int64
	change func(*impl.World)
	posts  []balance
}

func checkAppliedRows(t *testing.T, rows []appliedRow) {
	t.Helper()
	for _, r := range rows {
		list := commandsOf(t, slices.Concat(r.setup, []string{r.text}))
		last := len(list) - 1
		before := worldOf(t, list[:last])
		after, answers := impl.Play(list)
		want := tidyWorld(before)
		if r.change != nil {
			r.change(&want)
		}
		var batch []impl.Post
		for _, b := range r.posts {
			batch = append(batch, impl.Post{A: b.a, Cur: b.cur, N: b.n})
		}
		ledger, code := impl.Posted(before.Ledger, batch)
		if code != impl.PsOk {
			t.Fatalf("%s: what should be posted is rejected with %d", r.name, code)
		}
		answer := impl.Answer{Code: impl.SvOk, N: r.n}
		want.Ledger = ledger
		want.Done = append(want.Done, impl.Done{Key: list[last].Key, Answer: answer})
		if len(answers) != len(list) || answers[last] != answer {
			t.Errorf("%s: %q is answered with %v, not %v", r.name, r.text, answers[last:], answer)
		}
		if !sameWorld(after, want) {
			t.Errorf("%s: after %q the world is\n%+v, not\n%+v", r.name, r.text, tidyWorld(after), tidyWorld(want))
		}
		checkWorld(t, after)
	}
}

type rejectedRow struct {
	name  string
	setup []string
	text  string
	code  int64
}

// checkRejectedCmd also checks that the Key of the rejected command may be used by a later one.
func checkRejectedCmd(t *testing.T, name string, setup []impl.Cmd, c impl.Cmd, code int64) {
	t.Helper()
	before := worldOf(t, setup)
	list := append(slices.Clone(setup), c)
	after, answers := impl.Play(list)
	if len(answers) != len(list) || answers[len(setup)] != (impl.Answer{Code: code}) {
		t.Errorf("%s: %v is answered with %v, not with the code %d", name, c, answers[len(setup):], code)
	}
	if !sameWorld(before, after) {
		t.Errorf("%s: the rejected command %v changes the world from\n%+v to\n%+v", name, c, tidyWorld(before), tidyWorld(after))
	}
	if len(impl.Applied(list)) != len(setup) {
		t.Errorf("%s: the rejected command %v was applied", name, c)
	}
	if !impl.CmdOk(impl.Cmd{Kind: impl.CmDay, Key: c.Key}) || len(list) == impl.MaxCmds {
		return
	}
	next := commandWithKey(t, c.Key+" rate 4 5 1 1")
	want := worldOf(t, append(slices.Clone(setup), next))
	got, answers := impl.Play(append(list, next))
	if answers[len(answers)-1] != (impl.Answer{}) || !sameWorld(got, want) {
		t.Errorf("%s: the rejected command %v changes what follows", name, c)
	}
}

func checkRejectedRows(t *testing.T, rows []rejectedRow) {
	t.Helper()
	for _, r := range rows {
		list := commandsOf(t, slices.Concat(r.setup, []string{r.text}))
		last := len(list) - 1
		checkRejectedCmd(t, fmt.Sprintf("%s: %q", r.name, r.text), list[:last], list[last], r.code)
	}
}

func TestPlayLengths(t *testing.T) {
	for _, list := range [][]impl.Cmd{nil, {}} {
		if w, answers := impl.Play(list); !sameWorld(w, impl.World{}) || len(answers) != 0 || len(impl.Applied(list)) != 0 {
			t.Error("no commands:", w, answers)
		}
	}
	for _, n := range []int{59, 60, 61, 62, 1000} {
		for _, list := range [][]impl.Cmd{commandsOf(t, numbered("day %d", n)), make([]impl.Cmd, n)} {
			w, answers := impl.Play(list)
			applied := impl.Applied(list)
			switch {
			case n > 60:
				if !sameWorld(w, impl.World{}) || len(answers) != 0 || len(applied) != 0 {
					t.Errorf("%d commands: %v, %v, %v", n, w, answers, applied)
				}
			case list[0].Kind == 0:
				if !sameWorld(w, impl.World{}) || !slices.Equal(answers, slices.Repeat([]impl.Answer{{Code: impl.SvForm}}, n)) || len(applied) != 0 {
					t.Errorf("%d zero commands: %v, %v, %v", n, w, answers, applied)
				}
			default:
				if w.Day != int64(n) || len(w.Done) != n || !slices.Equal(answers, make([]impl.Answer, n)) || !slices.EqualFunc(applied, list, sameCmd) {
					t.Errorf("%d days: %v, %v, %v", n, w, answers, applied)
				}
			}
		}
	}
}

func TestSvForm(t *testing.T) {
	setup := commandsOf(t, shipped2("pay 1 0 100", "dispute 1 50"))
	rejects := func(c impl.Cmd) {
		t.Helper()
		checkRejectedCmd(t, "not valid", setup, c, impl.SvForm)
	}
	for _, row := range kindRows() {
		for i, f := range row.fields {
			for _, n := range []int64{f.low - 1, f.high + 1, math.MinInt64, math.MaxInt64} {
				c := leastCmd(row)
				*numberAt(&c, i) = n
				rejects(c)
			}
		}
		for i := len(row.fields); i < 6; i++ {
			c := leastCmd(row)
			*numberAt(&c, i) = 1
			rejects(c)
		}
		for _, key := range []string{"", "abcdefghijklm", "K", "a b", "é"} {
			c := leastCmd(row)
			c.Key = key
			rejects(c)
		}
		for _, kind := range []int64{0, 14, -1, math.MinInt64, math.MaxInt64} {
			c := leastCmd(row)
			c.Kind = kind
			rejects(c)
		}
		c := leastCmd(row)
		c.Items = []impl.Item{{Qty: 5, Price: 7, Shipped: 1}}
		rejects(c)
	}
}

func TestSvDay(t *testing.T) {
	checkRejectedRows(t, []rejectedRow{
		{"the first day", nil, "day 0", impl.SvDay},
		{"the same day", []string{"day 9"}, "day 9", impl.SvDay},
		{"a day before", []string{"day 9"}, "day 8", impl.SvDay},
		{"long before", []string{"day 9", "day 100000"}, "day 10", impl.SvDay},
		{"the last day", []string{"day 100000"}, "day 100000", impl.SvDay},
		{"with late orders", shipped2("day 30"), "day 30", impl.SvDay},
	})
}

func TestSvRate(t *testing.T) {
	const order, pay = "order 1 7 3 1 1 0 1x100", "pay 1 1 100"
	checkRejectedRows(t, []rejectedRow{
		{"an order without rates", shop(), order, impl.SvRate},
		{"an order with the reverse rate", shop("rate 0 1 1 2"), order, impl.SvRate},
		{"an order with the rate of another currency", shop("rate 2 0 1 2"), order, impl.SvRate},
		{"an order with a rate to another currency", shop("rate 1 2 1 2", "rate 2 0 1 2"), order, impl.SvRate},
		{"a payment without rates", shipped2(), pay, impl.SvRate},
		{"a payment with the reverse rate", shipped2("rate 0 1 1 2"), pay, impl.SvRate},
		{"a payment with a rate to another currency", shipped2("rate 1 2 1 2", "rate 2 0 1 2"), pay, impl.SvRate},
		{"a payment in EUR for an order in USD", shop("rate 1 0 1 2", order, "ship 1 0 1"), "pay 1 0 100", impl.SvRate},
		{"a payment that is worth more than MaxMoney", shipped2("rate 1 0 2 1"), "pay 1 1 500000000001", impl.SvRate},
		{"a payment that is worth far more than MaxMoney", shipped2("rate 1 0 1000000 1"), "pay 1 1 1000000000000", impl.SvRate},
	})
}

func TestSvId(t *testing.T) {
	const order = "order 1 7 3 0 1 0 1x100"
	// The ids of consumers, merchants and orders are apart: 7 is that of a consumer alone, 3 of a merchant, 1 of an order.
	rows := []rejectedRow{
		{"a known consumer", shop(), "consumer 7 100000", impl.SvId},
		{"a known consumer with another limit", shop(), "consumer 7 5", impl.SvId},
		{"a known merchant", shop(), "merchant 3 0 0", impl.SvId},
		{"a known order", shop(order), order, impl.SvId},
		{"a known order of others", shop(order, "consumer 8 500", "merchant 4 0 0"), "order 1 8 4 0 1 0 1x1", impl.SvId},
		{"no consumer", shop(), "order 1 3 3 0 1 0 1x100", impl.SvId},
		{"no merchant", shop(), "order 1 7 7 0 1 0 1x100", impl.SvId},
		{"neither", nil, order, impl.SvId},
	}
	for _, id := range []string{"2", "3", "7", "999"} {
		for _, rest := range []string{"ship %s 0 1", "pay %s 0 10", "refund %s 0 1", "dispute %s 10", "rule %s 0", "rule %s 1", "payoff %s"} {
			rows = append(rows, rejectedRow{"no order", shipped2("pay 1 0 30"), fmt.Sprintf(rest, id), impl.SvId})
		}
	}
	for _, id := range []string{"1", "2", "7", "999"} {
		for _, rest := range []string{"payout %s 0", "release %s 0 10"} {
			rows = append(rows, rejectedRow{"no merchant", shipped2(), fmt.Sprintf(rest, id), impl.SvId})
		}
	}
	checkRejectedRows(t, rows)
}

func TestSvLimit(t *testing.T) {
	const usd = "rate 1 0 1 2"
	limited := func(limit int64, texts ...string) []string {
		return slices.Concat([]string{fmt.Sprintf("consumer 7 %d", limit), "merchant 3 0 0", usd}, texts)
	}
	// Both sides of each limit: with one less, the last command is rejected.
	for _, r := range []struct {
		name  string
		limit int64
		texts []string
		n     int64
	}{
		{"one order", 3501, []string{"order 1 7 3 0 1 0 3x1000 1x501"}, 3501},
		{"two orders", 800, []string{"order 1 7 3 0 1 0 3x100", "order 2 7 3 0 1 0 5x100"}, 500},
		{"the orders of others do not count", 500, []string{"consumer 8 900", "order 1 8 3 0 1 0 9x100", "order 2 7 3 0 1 0 5x100"}, 500},
		{"what is shipped counts as before", 800, []string{"order 1 7 3 0 2 0 3x100", "ship 1 0 2", "order 2 7 3 0 1 0 5x100"}, 500},
		{"neither interest nor fees count", 800, []string{"order 1 7 3 0 2 10000 3x100", "ship 1 0 3", "day 400", "order 2 7 3 0 1 0 5x100"}, 500},
		{"what is paid does not count", 650, []string{"order 1 7 3 0 1 0 3x100", "ship 1 0 2", "pay 1 0 150", "order 2 7 3 0 1 0 5x100"}, 500},
		{"what is paid too much counts nothing", 600, []string{"order 1 7 3 0 1 0 3x100", "ship 1 0 2", "pay 1 0 999", "order 2 7 3 0 1 0 5x100"}, 500},
		{"what is refunded does not count", 700, []string{"order 1 7 3 0 1 0 3x100", "ship 1 0 2", "refund 1 0 1", "order 2 7 3 0 1 0 5x100"}, 500},
		{"what is upheld does not count", 770, []string{"order 1 7 3 0 1 0 3x100", "ship 1 0 2", "dispute 1 30", "rule 1 1", "order 2 7 3 0 1 0 5x100"}, 500},
		{"what is disputed counts", 800, []string{"order 1 7 3 0 1 0 3x100", "ship 1 0 2", "dispute 1 30", "order 2 7 3 0 1 0 5x100"}, 500},
		{"what was paid off does not count", 600, []string{"order 1 7 3 0 1 0 3x100", "ship 1 0 2", "payoff 1", "order 2 7 3 0 1 0 5x100"}, 500},
		{"in another currency", 250, []string{"order 1 7 3 1 1 0 5x100"}, 250},
		{"a tie to even, down", 2, []string{"order 1 7 3 1 1 0 5x1"}, 2},
		{"a tie to even, up", 2, []string{"order 1 7 3 1 1 0 3x1"}, 2},
		{"each order is rounded alone", 4, []string{"order 1 7 3 1 1 0 3x1", "order 2 7 3 1 1 0 3x1"}, 2},
		{"the rate of each order remains", 550, []string{"order 1 7 3 1 1 0 5x100", "day 3", "rate 1 0 2 1", "order 2 7 3 0 1 0 3x100"}, 300},
		{"the rate of the day counts", 1000, []string{"day 3", "rate 1 0 2 1", "order 2 7 3 1 1 0 5x100"}, 1000},
		{"in two currencies", 550, []string{"order 1 7 3 1 1 0 5x100", "order 2 7 3 0 1 0 3x100"}, 300},
		{"the greatest value", most, []string{"rate 2 0 1000000 1", "order 1 7 3 2 1 0 1x1000000"}, most},
	} {
		list := commandsOf(t, limited(r.limit, r.texts...))
		w, answers := impl.Play(list)
		if last := len(list) - 1; answers[last] != (impl.Answer{N: r.n}) {
			t.Errorf("%s: %v", r.name, answers)
		}
		checkWorld(t, w)
		list = commandsOf(t, limited(r.limit-1, r.texts...))
		last := len(list) - 1
		checkRejectedCmd(t, r.name, list[:last], list[last], impl.SvLimit)
	}
	checkRejectedRows(t, []rejectedRow{
		{"far beyond", limited(5), "order 1 7 3 0 1 0 8x1000000", impl.SvLimit},
		{"a limit of 0", limited(0), "order 1 7 3 0 1 0 1x1", impl.SvLimit},
		{"a value beyond MaxMoney by one", limited(most, "rate 2 0 1000000 1"), "order 1 7 3 2 1 0 1x1000000 1x1", impl.SvLimit},
		{"a value far beyond MaxMoney", limited(most, "rate 2 0 1000000 1"), "order 1 7 3 2 1 0 1000x1000000 1000x1000000", impl.SvLimit},
	})
	checkAppliedRows(t, []appliedRow{{
		name: "a value that is rounded to 0 fits into a limit of 0", setup: limited(0), text: "order 1 7 3 1 24 0 1x1",
		change: func(w *impl.World) {
			w.Orders = []impl.Order{{Id: 1, Consumer: 7, Merchant: 3, Cur: 1, N: 24, Num: 1, Den: 2, Items: []impl.Item{{Qty: 1, Price: 1}}}}
		},
	}})
}

func TestSvQtyAndSvPlan(t *testing.T) {
	// Two months after the day 99939 is the last day.
	late := []string{"consumer 7 100000", "merchant 3 1000 2000", "day 99940", "order 1 7 3 0 2 0 3x1000"}
	checkRejectedRows(t, []rejectedRow{
		{"no such item", shipped2(), "ship 1 2 1", impl.SvQty},
		{"the last index", shipped2(), "ship 1 7 1", impl.SvQty},
		{"more than there are", shipped2(), "ship 1 1 2", impl.SvQty},
		{"more than there still are", shipped2(), "ship 1 0 2", impl.SvQty},
		{"all are shipped", shipped2("ship 1 0 1"), "ship 1 0 1", impl.SvQty},
		{"refunded pieces are not shipped again", shipped2("ship 1 0 1", "refund 1 0 2"), "ship 1 0 1", impl.SvQty},
		{"no such item to refund", shipped2(), "refund 1 2 1", impl.SvQty},
		{"the last index to refund", shipped2(), "refund 1 7 1", impl.SvQty},
		{"nothing of it was shipped", shipped2(), "refund 1 1 1", impl.SvQty},
		{"more than was shipped", shipped2(), "refund 1 0 3", impl.SvQty},
		{"more than is still shipped", shipped2("refund 1 0 1"), "refund 1 0 2", impl.SvQty},
		{"an order with nothing shipped", shop("order 1 7 3 0 2 1200 3x1000"), "refund 1 0 1", impl.SvQty},
		{"no further plan", manyPlans(), "ship 1 0 1", impl.SvPlan},
		{"no further plan, also for all pieces", manyPlans(), "ship 1 0 12", impl.SvPlan},
		{"no due days", late, "ship 1 0 1", impl.SvPlan},
	})
	late[2] = "day 99939"
	if w, answers := impl.Play(commandsOf(t, append(late, "ship 1 0 1"))); answers[4] != (impl.Answer{N: 1000}) || w.Orders[0].Plans[0].Parts[1].Due != 100000 {
		t.Error("the last due day:", answers, w.Orders)
	}
}

func TestSvAmount(t *testing.T) {
	rate := shipped2("rate 1 0 1 1000")
	// The pieces 0 and 1 are shipped for 2501, of which 1001 are upheld.
	upheld := shipped2("ship 1 1 1", "dispute 1 1501", "rule 1 1")
	checkRejectedRows(t, []rejectedRow{
		{"a payment that is worth nothing", rate, "pay 1 1 1", impl.SvAmount},
		{"a payment that is worth a half", rate, "pay 1 1 500", impl.SvAmount},
		{"a refund of a price that is not there", shipped2("dispute 1 1001", "rule 1 1"), "refund 1 0 1", impl.SvAmount},
		{"a refund of more than the price", upheld, "refund 1 0 2", impl.SvAmount},
		{"a dispute of more than the price", shipped2(), "dispute 1 2001", impl.SvAmount},
		{"a dispute of much more than the price", shipped2(), "dispute 1 1000000000000", impl.SvAmount},
		{"a dispute of an order with nothing shipped", shop("order 1 7 3 0 2 1200 3x1000"), "dispute 1 1", impl.SvAmount},
		{"a dispute of more than is left of the price", upheld, "dispute 1 1001", impl.SvAmount},
		{"a dispute of what was refunded", shipped2("refund 1 0 1"), "dispute 1 1001", impl.SvAmount},
		{"interest is no price", shipped2("refund 1 0 2"), "dispute 1 1", impl.SvAmount},
		{"a release of one more than is held", shipped2(), "release 3 0 361", impl.SvAmount},
		{"a release of much more than is held", shipped2(), "release 3 0 1000000000000", impl.SvAmount},
		{"a release in another currency", shipped2(), "release 3 1 1", impl.SvAmount},
		{"a release where nothing is held", shop(), "release 3 0 1", impl.SvAmount},
		{"a release of more than is still held", shipped2("release 3 0 300"), "release 3 0 61", impl.SvAmount},
		{"a release of what another merchant has", shipped2("merchant 4 0 0"), "release 4 0 1", impl.SvAmount},
	})
}

func TestSvOpenAndSvNone(t *testing.T) {
	checkRejectedRows(t, []rejectedRow{
		{"a second dispute", shipped2("dispute 1 5"), "dispute 1 5", impl.SvOpen},
		{"a ruling without a dispute", shipped2(), "rule 1 1", impl.SvOpen},
		{"a ruling against nothing", shipped2(), "rule 1 0", impl.SvOpen},
		{"a second ruling", shipped2("dispute 1 5", "rule 1 0"), "rule 1 1", impl.SvOpen},
		{"a second ruling, the other way round", shipped2("dispute 1 5", "rule 1 1"), "rule 1 0", impl.SvOpen},
		{"a dispute of another order", shipped2("order 2 7 3 0 1 0 1x5", "ship 2 0 1", "dispute 2 5"), "rule 1 1", impl.SvOpen},
		{"nothing payable", shop(), "payout 3 0", impl.SvNone},
		{"nothing payable in this currency", shipped2(), "payout 3 1", impl.SvNone},
		{"nothing payable to this merchant", shipped2("merchant 4 0 0"), "payout 4 0", impl.SvNone},
		{"a second payout", shipped2("payout 3 0"), "payout 3 0", impl.SvNone},
		{"the merchant owes", shipped2("refund 1 0 2"), "payout 3 0", impl.SvNone},
		{"all is held", []string{"consumer 7 100000", "merchant 3 0 10000", "order 1 7 3 0 1 0 1x10", "ship 1 0 1"}, "payout 3 0", impl.SvNone},
		{"an order without plans", shop("order 1 7 3 0 2 1200 3x1000"), "payoff 1", impl.SvNone},
		{"an order that is paid", shipped2("pay 1 0 2040"), "payoff 1", impl.SvNone},
		{"a second payoff", shipped2("payoff 1"), "payoff 1", impl.SvNone},
		{"interest alone that is not due", shipped2("pay 1 0 1020", "refund 1 0 1"), "payoff 1", impl.SvNone},
	})
}

func TestSvFullPeople(t *testing.T) {
	many := impl.MaxPeople
	checkRejectedRows(t, []rejectedRow{
		{"consumers", numbered("consumer %d 5", many), "consumer 21 5", impl.SvFull},
		{"merchants", numbered("merchant %d 5 5", many), "merchant 21 5 5", impl.SvFull},
		{"orders", fullShop(), "order 21 7 3 0 1 0 1x1", impl.SvFull},
		{"orders of another consumer", slices.Concat(fullShop(), []string{"consumer 8 500", "merchant 4 0 0"}), "order 21 8 4 0 1 0 1x1", impl.SvFull},
	})
	// Consumers, merchants and orders are counted apart.
	all := slices.Concat(numbered("consumer %d 5", many), numbered("merchant %d 5 5", many), numbered("order %[1]d %[1]d %[1]d 0 1 0 1x1", many))
	w := worldOf(t, commandsOf(t, all))
	if len(w.Consumers) != 20 || len(w.Merchants) != 20 || len(w.Orders) != 20 || len(w.Done) != 60 {
		t.Error("as many of each as there can be:", w)
	}
	checkWorld(t, w)
}

func TestFirstOfTwoCodes(t *testing.T) {
	many := impl.MaxPeople
	known := shop("order 1 7 3 0 1 0 1x100")
	upheld := shipped2("dispute 1 2000", "rule 1 1")
	late := []string{"consumer 7 100000", "merchant 3 1000 2000", "day 99990", "order 1 7 3 0 2 0 3x1000"}
	checkRejectedRows(t, []rejectedRow{
		{"a known consumer, and no room", numbered("consumer %d 5", many), "consumer 20 5", impl.SvId},
		{"a known merchant, and no room", numbered("merchant %d 5 5", many), "merchant 1 5 5", impl.SvId},
		{"a known order, and no room", fullShop(), "order 20 7 3 0 1 0 1x1", impl.SvId},
		{"no consumer, and no room", fullShop(), "order 21 8 3 0 1 0 1x1", impl.SvId},
		{"no merchant, and no room", fullShop(), "order 21 7 4 0 1 0 1x1", impl.SvId},
		{"a known order, and no rate", known, "order 1 7 3 1 1 0 1x1", impl.SvId},
		{"no consumer, and no rate", known, "order 2 8 3 1 1 0 1x1", impl.SvId},
		{"no merchant, and no rate", known, "order 2 7 4 1 1 0 1x1", impl.SvId},
		{"a known order, and the limit", known, "order 1 7 3 0 1 0 1x1000000", impl.SvId},
		{"no consumer, and the limit", known, "order 2 8 3 0 1 0 1x1000000", impl.SvId},
		{"no merchant, and the limit", known, "order 2 7 4 0 1 0 1x1000000", impl.SvId},
		{"no room, and no rate", fullShop(), "order 21 7 3 1 1 0 1x1", impl.SvFull},
		{"no room, and the limit", fullShop(), "order 21 7 3 0 1 0 1x1000000", impl.SvFull},
		{"no rate, and the limit", shop(), "order 1 7 3 1 1 0 1x1000000", impl.SvRate},
		{"no order, and no item to ship", shop(), "ship 1 7 1000", impl.SvId},
		{"no item, and no further plan", manyPlans(), "ship 1 1 1", impl.SvQty},
		{"too many, and no further plan", manyPlans(), "ship 1 0 13", impl.SvQty},
		{"too many, and no due days", late, "ship 1 0 4", impl.SvQty},
		{"no order, and no rate for the payment", shop(), "pay 1 1 10", impl.SvId},
		{"no order, and a payment worth nothing", shop("rate 1 0 1 1000"), "pay 1 1 10", impl.SvId},
		{"no order, and no item to refund", shop(), "refund 1 7 1000", impl.SvId},
		{"too many, and not in the price", upheld, "refund 1 0 3", impl.SvQty},
		{"none shipped, and not in the price", upheld, "refund 1 1 1", impl.SvQty},
		{"no order, and a dispute of more than its price", shop(), "dispute 1 1", impl.SvId},
		{"a second dispute, of more than the price", shipped2("dispute 1 2000"), "dispute 1 2001", impl.SvOpen},
		{"no order, and no dispute", shop(), "rule 1 1", impl.SvId},
		{"no merchant, and nothing payable", shop(), "payout 4 0", impl.SvId},
		{"no merchant, and nothing held", shop(), "release 4 0 1", impl.SvId},
		{"no order, and nothing to pay off", shop(), "payoff 1", impl.SvId},
	})
}

func TestDayCommand(t *testing.T) {
	// Of the orders 1, 2 and 4, a Part is due on day 31, of the orders 1 and 4 also on day 59; the order 3 is paid and nothing of the order 5 is shipped.
	setup := []string{
		"consumer 7 100000", "consumer 8 100000", "merchant 3 0 0", "rate 1 0 1 2",
		"order 1 7 3 0 2 1200 2x1000", "order 2 8 3 1 1 1200 2x1000", "order 3 7 3 0 1 0 1x50", "order 4 7 3 0 2 0 1x10", "order 5 7 3 0 1 0 1x10",
		"ship 1 0 2", "ship 2 0 2", "ship 3 0 1", "ship 4 0 1", "pay 3 0 50",
	}
	other := impl.Acct{Class: impl.ClConsumer, Id: 8, Sub: 1}
	to := func(day int64) func(*impl.World) {
		return func(w *impl.World) {
			w.Day = day
			for i, o := range w.Orders {
				w.Orders[i], _, _ = impl.OrderLate(o, day, 500, 5)
			}
		}
	}
	three := []balance{{owed, 0, 1000}, {other, 1, 500}, {fees, 0, -1000}, {fees, 1, -500}}
	checkAppliedRows(t, []appliedRow{
		{"without orders", nil, "day 1", 0, to(1), nil},
		{"the last day", nil, "day 100000", 0, to(100000), nil},
		{"before the grace ends", setup, "day 36", 0, to(36), nil},
		{"the first late day", setup, "day 37", 3, to(37), three},
		{"before the next grace ends", setup, "day 64", 3, to(64), three},
		{"two late Parts of an order", setup, "day 65", 3, to(65), []balance{{owed, 0, 2000}, {other, 1, 500}, {fees, 0, -2000}, {fees, 1, -500}}},
		{"a fee is due once", append(slices.Clone(setup), "day 37"), "day 38", 0, to(38), nil},
		{"the next Part is late too", append(slices.Clone(setup), "day 37"), "day 65", 2, to(65), []balance{{owed, 0, 1000}, {fees, 0, -1000}}},
		{"with a payment of all but one", append(slices.Clone(setup), "pay 1 0 1019"), "day 37", 3, to(37), three},
		{"with a payment of a Part", append(slices.Clone(setup), "pay 1 0 1020"), "day 37", 2, to(37), []balance{{owed, 0, 500}, {other, 1, 500}, {fees, 0, -500}, {fees, 1, -500}}},
		{"without an order that is paid off", append(slices.Clone(setup), "payoff 1", "payoff 4"), "day 90", 1, to(90), []balance{{other, 1, 500}, {fees, 1, -500}}},
		{"after a payment of the fee, no further one", append(slices.Clone(setup), "day 37", "pay 1 0 500"), "day 40", 0, to(40), nil},
	})
	w := worldOf(t, commandsOf(t, append(setup, "day 37")))
	if w.Orders[0].Plans[0].Parts[0].F != impl.LateFee || w.Orders[0].Plans[0].Parts[1].F != 0 || impl.LateFee != 500 || impl.Grace != 5 {
		t.Error("late fees:", w.Orders[0].Plans)
	}
}

func TestRateAndPeopleCommands(t *testing.T) {
	rate := func(r impl.Rate) func(*impl.World) {
		return func(w *impl.World) { w.Rates = append(w.Rates, r) }
	}
	consumer := func(c impl.Consumer) func(*impl.World) {
		return func(w *impl.World) { w.Consumers = append(w.Consumers, c) }
	}
	merchant := func(m impl.Merchant) func(*impl.World) {
		return func(w *impl.World) { w.Merchants = append(w.Merchants, m) }
	}
	checkAppliedRows(t, []appliedRow{
		{"a rate", nil, "rate 1 0 9 10", 0, rate(impl.Rate{From: 1, Num: 9, Den: 10}), nil},
		{"a rate of a later day", []string{"rate 1 0 9 10", "day 7"}, "rate 5 3 1000000 1", 0, rate(impl.Rate{Day: 7, From: 5, To: 3, Num: 1000000, Den: 1}), nil},
		{"a second rate of a day", []string{"day 7", "rate 1 0 9 10"}, "rate 1 0 8 10", 0, rate(impl.Rate{Day: 7, From: 1, Num: 8, Den: 10}), nil},
		{"a rate of the last day", []string{"day 100000"}, "rate 0 1 1 1000000", 0, rate(impl.Rate{Day: 100000, To: 1, Num: 1, Den: 1000000}), nil},
		{"as many rates as commands", numbered("rate 1 0 1 %d", 59), "rate 1 0 2 1", 0, rate(impl.Rate{From: 1, Num: 2, Den: 1}), nil},
		{"a consumer", nil, "consumer 7 5000", 0, consumer(impl.Consumer{Id: 7, Limit: 5000}), nil},
		{"a consumer without a limit to spend", shop(), "consumer 999 0", 0, consumer(impl.Consumer{Id: 999}), nil},
		{"a consumer with the id of a merchant", shop(), "consumer 3 1000000000000", 0, consumer(impl.Consumer{Id: 3, Limit: most}), nil},
		{"consumers stay in order", shop(), "consumer 1 5", 0, consumer(impl.Consumer{Id: 1, Limit: 5}), nil},
		{"the last consumer", numbered("consumer %d 5", 19), "consumer 20 6", 0, consumer(impl.Consumer{Id: 20, Limit: 6}), nil},
		{"a merchant", nil, "merchant 3 1000 2000", 0, merchant(impl.Merchant{Id: 3, Discount: 1000, Reserve: 2000}), nil},
		{"a merchant with the id of a consumer", shop(), "merchant 7 0 10000", 0, merchant(impl.Merchant{Id: 7, Reserve: 10000}), nil},
		{"the last merchant", numbered("merchant %d 5 6", 19), "merchant 20 10000 0", 0, merchant(impl.Merchant{Id: 20, Discount: 10000}), nil},
	})
}

func TestOrderCommand(t *testing.T) {
	order := func(o impl.Order) func(*impl.World) {
		return func(w *impl.World) { w.Orders = append(w.Orders, o) }
	}
	items := []impl.Item{{Qty: 2, Price: 500}, {Qty: 1, Price: 7}}
	rates := []string{"rate 1 0 1 2", "rate 0 1 7 1", "rate 2 0 5 1"}
	next := append(slices.Clone(rates), "day 5", "rate 1 0 3 4", "day 9")
	checkAppliedRows(t, []appliedRow{
		{"in EUR", shop(), "order 1 7 3 0 4 999 2x500 1x7", 1007, order(impl.Order{Id: 1, Consumer: 7, Merchant: 3, N: 4, Rate: 999, Num: 1, Den: 1, Items: items}), nil},
		{"in EUR, with rates and on a later day", shop(next...), "order 1 7 3 0 4 999 2x500 1x7", 1007, order(impl.Order{Id: 1, Consumer: 7, Merchant: 3, Day: 9, N: 4, Rate: 999, Num: 1, Den: 1, Items: items}), nil},
		{"in USD", shop(rates...), "order 5 7 3 1 24 0 2x500 1x7", 504, order(impl.Order{Id: 5, Consumer: 7, Merchant: 3, Cur: 1, N: 24, Num: 1, Den: 2, Items: items}), nil},
		{"in USD at a later rate", shop(next...), "order 5 7 3 1 1 10000 2x500 1x7", 755, order(impl.Order{Id: 5, Consumer: 7, Merchant: 3, Cur: 1, Day: 9, N: 1, Rate: 10000, Num: 3, Den: 4, Items: items}), nil},
		{"in JPY", shop(next...), "order 5 7 3 2 1 0 2x500 1x7", 5035, order(impl.Order{Id: 5, Consumer: 7, Merchant: 3, Cur: 2, Day: 9, N: 1, Num: 5, Den: 1, Items: items}), nil},
		{"at the second rate of a day", shop("rate 1 0 1 2", "rate 1 0 1 4"), "order 5 7 3 1 1 0 2x500 1x7", 252, order(impl.Order{Id: 5, Consumer: 7, Merchant: 3, Cur: 1, N: 1, Num: 1, Den: 4, Items: items}), nil},
		{"with the ids of others", shop("order 3 7 3 0 1 0 1x1"), "order 7 7 3 0 1 0 2x500 1x7", 1007, order(impl.Order{Id: 7, Consumer: 7, Merchant: 3, N: 1, Num: 1, Den: 1, Items: items}), nil},
		{"the last order", fullShop()[:21], "order 999 7 3 0 1 0 2x500 1x7", 1007, order(impl.Order{Id: 999, Consumer: 7, Merchant: 3, N: 1, Num: 1, Den: 1, Items: items}), nil},
	})
}

func ship(item, qty, day int64) func(*impl.World) {
	return func(w *impl.World) { w.Orders[0], _, _, _ = impl.OrderShip(w.Orders[0], item, qty, day) }
}

func TestShipCommand(t *testing.T) {
	by := func(discount, reserve int, order string) []string {
		return []string{"consumer 7 100000", fmt.Sprintf("merchant 3 %d %d", discount, reserve), "rate 1 0 1 2", order}
	}
	const order, free = "order 1 7 3 0 2 1200 3x1000 1x501", "order 1 7 3 0 2 0 40x5"
	checkAppliedRows(t, []appliedRow{
		{"two pieces", by(1000, 2000, order), "ship 1 0 2", 2000, ship(0, 2, 0), []balance{{owed, 0, 2040}, {payable, 0, -1440}, {held, 0, -360}, {discounts, 0, -200}, {interest, 0, -40}}},
		{"the other item", by(1000, 2000, order), "ship 1 1 1", 501, ship(1, 1, 0), []balance{{owed, 0, 511}, {payable, 0, -361}, {held, 0, -90}, {discounts, 0, -50}, {interest, 0, -10}}},
		{"on a later day", shipped2("day 10"), "ship 1 0 1", 1000, ship(0, 1, 10), []balance{{owed, 0, 1020}, {payable, 0, -720}, {held, 0, -180}, {discounts, 0, -100}, {interest, 0, -20}}},
		{"in USD", by(1000, 2000, "order 1 7 3 1 2 1200 3x1000"), "ship 1 0 3", 3000, ship(0, 3, 0), []balance{{owed, 1, 3060}, {payable, 1, -2160}, {held, 1, -540}, {discounts, 1, -300}, {interest, 1, -60}}},
		{"without interest", by(1000, 2000, free), "ship 1 0 20", 100, ship(0, 20, 0), []balance{{owed, 0, 100}, {payable, 0, -72}, {held, 0, -18}, {discounts, 0, -10}}},
		{"without discount", by(0, 2000, free), "ship 1 0 20", 100, ship(0, 20, 0), []balance{{owed, 0, 100}, {payable, 0, -80}, {held, 0, -20}}},
		{"without reserve", by(1000, 0, free), "ship 1 0 20", 100, ship(0, 20, 0), []balance{{owed, 0, 100}, {payable, 0, -90}, {discounts, 0, -10}}},
		{"without both", by(0, 0, free), "ship 1 0 20", 100, ship(0, 20, 0), []balance{{owed, 0, 100}, {payable, 0, -100}}},
		{"all is discount", by(10000, 2000, free), "ship 1 0 20", 100, ship(0, 20, 0), []balance{{owed, 0, 100}, {discounts, 0, -100}}},
		{"all is reserve", by(0, 10000, free), "ship 1 0 20", 100, ship(0, 20, 0), []balance{{owed, 0, 100}, {held, 0, -100}}},
		{"the reserve is of what the discount leaves", by(5000, 10000, free), "ship 1 0 20", 100, ship(0, 20, 0), []balance{{owed, 0, 100}, {held, 0, -50}, {discounts, 0, -50}}},
		{"a discount of a half, to even below", by(1000, 0, free), "ship 1 0 1", 5, ship(0, 1, 0), []balance{{owed, 0, 5}, {payable, 0, -5}}},
		{"a discount of a half, to even above", by(1000, 0, free), "ship 1 0 3", 15, ship(0, 3, 0), []balance{{owed, 0, 15}, {payable, 0, -13}, {discounts, 0, -2}}},
		{"a reserve of a half, to even below", by(0, 5000, free), "ship 1 0 1", 5, ship(0, 1, 0), []balance{{owed, 0, 5}, {payable, 0, -3}, {held, 0, -2}}},
		{"a reserve of a half, to even above", by(0, 5000, free), "ship 1 0 3", 15, ship(0, 3, 0), []balance{{owed, 0, 15}, {payable, 0, -7}, {held, 0, -8}}},
		{"at the terms of its own merchant", slices.Concat([]string{"merchant 4 0 0", "merchant 5 9000 9000"}, by(1000, 2000, free)), "ship 1 0 20", 100, ship(0, 20, 0), []balance{{owed, 0, 100}, {payable, 0, -72}, {held, 0, -18}, {discounts, 0, -10}}},
		{"the last plan", manyPlans()[:10], "ship 1 0 13", 130, ship(0, 13, 0), []balance{{owed, 0, 130}, {payable, 0, -94}, {held, 0, -23}, {discounts, 0, -13}}},
	})
	// Another order of the list is shipped, for another consumer and another merchant.
	checkAppliedRows(t, []appliedRow{{
		name: "the second order", setup: shipped2("consumer 8 900", "merchant 4 0 0", "order 2 8 4 0 1 0 9x100"), text: "ship 2 0 3", n: 300,
		change: func(w *impl.World) { w.Orders[1], _, _, _ = impl.OrderShip(w.Orders[1], 0, 3, 0) },
		posts:  []balance{{impl.Acct{Class: impl.ClConsumer, Id: 8, Sub: 1}, 0, 300}, {impl.Acct{Class: impl.ClMerchant, Id: 4, Sub: 1}, 0, -300}},
	}})
}

func pay(n int64) func(*impl.World) {
	return func(w *impl.World) { w.Orders[0], _, _, _ = impl.OrderPay(w.Orders[0], n) }
}

func TestPayCommand(t *testing.T) {
	usd := shipped2("rate 1 0 9 10")
	later := append(slices.Clone(usd), "day 5", "rate 1 0 1 2", "day 6")
	small := shipped2("rate 1 0 1 1000")
	inUSD := shop("rate 1 0 1 2", "rate 0 1 3 1", "order 1 7 3 1 2 0 3x1000", "ship 1 0 2")
	checkAppliedRows(t, []appliedRow{
		{"a part", shipped2(), "pay 1 0 500", 0, pay(500), []balance{{cash, 0, 500}, {owed, 0, -500}}},
		{"the least", shipped2(), "pay 1 0 1", 0, pay(1), []balance{{cash, 0, 1}, {owed, 0, -1}}},
		{"all", shipped2(), "pay 1 0 2040", 0, pay(2040), []balance{{cash, 0, 2040}, {owed, 0, -2040}}},
		{"one too much", shipped2(), "pay 1 0 2041", 1, pay(2041), []balance{{cash, 0, 2041}, {owed, 0, -2040}, {credit, 0, -1}}},
		{"the greatest amount", shipped2(), "pay 1 0 1000000000000", most - 2040, pay(most), []balance{{cash, 0, most}, {owed, 0, -2040}, {credit, 0, 2040 - most}}},
		{"when nothing is owed", shop("order 1 7 3 0 2 0 3x1000"), "pay 1 0 30", 30, pay(30), []balance{{cash, 0, 30}, {credit, 0, -30}}},
		{"a second time", shipped2("pay 1 0 2000"), "pay 1 0 100", 60, pay(100), []balance{{cash, 0, 100}, {owed, 0, -40}, {credit, 0, -60}}},
		{"with a late fee", shipped2("day 40"), "pay 1 0 700", 0, pay(700), []balance{{cash, 0, 700}, {owed, 0, -700}}},
		{"in USD", usd, "pay 1 1 1000", 0, pay(900), []balance{{cash, 1, 1000}, {exchange, 1, -1000}, {exchange, 0, 900}, {owed, 0, -900}}},
		{"in USD, too much", usd, "pay 1 1 3000", 660, pay(2700), []balance{{cash, 1, 3000}, {exchange, 1, -3000}, {exchange, 0, 2700}, {owed, 0, -2040}, {credit, 0, -660}}},
		{"in USD when nothing is owed", shop("rate 1 0 9 10", "order 1 7 3 0 2 0 3x1000"), "pay 1 1 10", 9, pay(9), []balance{{cash, 1, 10}, {exchange, 1, -10}, {exchange, 0, 9}, {credit, 0, -9}}},
		{"at the rate of the day", later, "pay 1 1 1000", 0, pay(500), []balance{{cash, 1, 1000}, {exchange, 1, -1000}, {exchange, 0, 500}, {owed, 0, -500}}},
		{"a half, to even below", later, "pay 1 1 5", 0, pay(2), []balance{{cash, 1, 5}, {exchange, 1, -5}, {exchange, 0, 2}, {owed, 0, -2}}},
		{"a half, to even above", later, "pay 1 1 3", 0, pay(2), []balance{{cash, 1, 3}, {exchange, 1, -3}, {exchange, 0, 2}, {owed, 0, -2}}},
		{"worth more than a half", small, "pay 1 1 501", 0, pay(1), []balance{{cash, 1, 501}, {exchange, 1, -501}, {exchange, 0, 1}, {owed, 0, -1}}},
		{"worth MaxMoney", shipped2("rate 1 0 2 1"), "pay 1 1 500000000000", most - 2040, pay(most), []balance{{cash, 1, most / 2}, {exchange, 1, -most / 2}, {exchange, 0, most}, {owed, 0, -2040}, {credit, 0, 2040 - most}}},
		{"an order in USD, in USD", inUSD, "pay 1 1 700", 0, pay(700), []balance{{cash, 1, 700}, {owed, 1, -700}}},
		{"an order in USD, in EUR", inUSD, "pay 1 0 100", 0, pay(300), []balance{{cash, 0, 100}, {exchange, 0, -100}, {exchange, 1, 300}, {owed, 1, -300}}},
		{"an order in USD, of as many EUR as the number of USD", inUSD, "pay 1 0 1", 0, pay(3), []balance{{cash, 0, 1}, {exchange, 0, -1}, {exchange, 1, 3}, {owed, 1, -3}}},
		{"in the currency of the order there is no exchange", usd, "pay 1 0 1000", 0, pay(1000), []balance{{cash, 0, 1000}, {owed, 0, -1000}}},
	})
}

func refund(item, qty int64) func(*impl.World) {
	return func(w *impl.World) { w.Orders[0], _, _, _ = impl.OrderRefund(w.Orders[0], item, qty) }
}

func TestRefundCommand(t *testing.T) {
	const usd = "rate 1 0 1 1"
	checkAppliedRows(t, []appliedRow{
		{"nothing is paid", shipped2(), "refund 1 0 1", 0, refund(0, 1), []balance{{owed, 0, -1000}, {payable, 0, 1000}}},
		{"all pieces", shipped2(), "refund 1 0 2", 0, refund(0, 2), []balance{{owed, 0, -2000}, {payable, 0, 2000}}},
		{"all is paid", shipped2("pay 1 0 2040"), "refund 1 0 1", 1000, refund(0, 1), []balance{{cash, 0, -1000}, {payable, 0, 1000}}},
		{"a part is paid", shipped2("pay 1 0 1320"), "refund 1 0 1", 280, refund(0, 1), []balance{{owed, 0, -720}, {cash, 0, -280}, {payable, 0, 1000}}},
		{"what is paid is kept", shipped2("pay 1 0 1020"), "refund 1 0 1", 0, refund(0, 1), []balance{{owed, 0, -1000}, {payable, 0, 1000}}},
		{"another item", shipped2("ship 1 1 1", "pay 1 0 2551"), "refund 1 1 1", 501, refund(1, 1), []balance{{cash, 0, -501}, {payable, 0, 501}}},
		{"paid in another currency", shipped2(usd, "pay 1 1 2040"), "refund 1 0 2", 2000, refund(0, 2), []balance{{cash, 0, -2000}, {payable, 0, 2000}}},
		{"of an order in USD", shop(usd, "order 1 7 3 1 1 0 3x10", "ship 1 0 3", "pay 1 1 25"), "refund 1 0 2", 15, refund(0, 2), []balance{{owed, 1, -5}, {cash, 1, -15}, {payable, 1, 20}}},
		{"after a payout", shipped2("payout 3 0"), "refund 1 0 2", 0, refund(0, 2), []balance{{owed, 0, -2000}, {payable, 0, 2000}}},
		{"exactly the price that a dispute leaves", shipped2("dispute 1 1000", "rule 1 1"), "refund 1 0 1", 0, refund(0, 1), []balance{{owed, 0, -1000}, {payable, 0, 1000}}},
	})
}

func open(n int64) func(*impl.World) {
	return func(w *impl.World) { w.Orders[0].Open = n }
}

func upheld(n int64) func(*impl.World) {
	return func(w *impl.World) {
		w.Orders[0].Open = 0
		w.Orders[0], _, _ = impl.OrderTake(w.Orders[0], n)
	}
}

func TestDisputeAndRuleCommands(t *testing.T) {
	paid := shipped2("pay 1 0 2040")
	checkAppliedRows(t, []appliedRow{
		{"the least dispute", shipped2(), "dispute 1 1", 1, open(1), nil},
		{"a dispute of all", shipped2(), "dispute 1 2000", 2000, open(2000), nil},
		{"a dispute of what is paid", paid, "dispute 1 2000", 2000, open(2000), nil},
		{"a dispute of what a refund leaves", shipped2("refund 1 0 1"), "dispute 1 1000", 1000, open(1000), nil},
		{"a dispute after another one", shipped2("dispute 1 700", "rule 1 1"), "dispute 1 1300", 1300, open(1300), nil},
		{"a dispute after a ruling against it", shipped2("dispute 1 700", "rule 1 0"), "dispute 1 2000", 2000, open(2000), nil},
		{"against the consumer", shipped2("dispute 1 700"), "rule 1 0", 0, open(0), nil},
		{"for the consumer", shipped2("dispute 1 700"), "rule 1 1", 700, upheld(700), []balance{{owed, 0, -700}, {payable, 0, 700}}},
		{"for all", shipped2("dispute 1 2000"), "rule 1 1", 2000, upheld(2000), []balance{{owed, 0, -2000}, {payable, 0, 2000}}},
		{"when all is paid", append(slices.Clone(paid), "dispute 1 700"), "rule 1 1", 700, upheld(700), []balance{{cash, 0, -700}, {payable, 0, 700}}},
		{"when a part is paid", shipped2("pay 1 0 1520", "dispute 1 700"), "rule 1 1", 700, upheld(700), []balance{{owed, 0, -520}, {cash, 0, -180}, {payable, 0, 700}}},
		{"more than a refund leaves", shipped2("dispute 1 1700", "refund 1 0 1"), "rule 1 1", 1000, upheld(1000), []balance{{owed, 0, -1000}, {payable, 0, 1000}}},
		{"more than a refund leaves, and paid", shipped2("pay 1 0 2040", "dispute 1 1700", "refund 1 0 1"), "rule 1 1", 1000, upheld(1000), []balance{{cash, 0, -1000}, {payable, 0, 1000}}},
		{"when nothing is left", shipped2("dispute 1 1700", "refund 1 0 2"), "rule 1 1", 0, open(0), nil},
		{"against the consumer, when nothing is left", shipped2("dispute 1 1700", "refund 1 0 2"), "rule 1 0", 0, open(0), nil},
		{"a second time", shipped2("dispute 1 700", "rule 1 1", "dispute 1 5"), "rule 1 1", 5, upheld(5), []balance{{owed, 0, -5}, {payable, 0, 5}}},
	})
}

func TestPayoutAndReleaseCommands(t *testing.T) {
	usd := shipped2("rate 1 0 1 1", "order 2 7 3 1 1 0 1x100", "ship 2 0 1")
	checkAppliedRows(t, []appliedRow{
		{"a payout", shipped2(), "payout 3 0", 1440, nil, []balance{{payable, 0, 1440}, {cash, 0, -1440}}},
		{"a payout of a currency", usd, "payout 3 1", 72, nil, []balance{{payable, 1, 72}, {cash, 1, -72}}},
		{"a payout of the other currency", usd, "payout 3 0", 1440, nil, []balance{{payable, 0, 1440}, {cash, 0, -1440}}},
		{"a payout of what was released", shipped2("release 3 0 360"), "payout 3 0", 1800, nil, []balance{{payable, 0, 1800}, {cash, 0, -1800}}},
		{"a payout of what a refund leaves", shipped2("refund 1 0 1"), "payout 3 0", 440, nil, []balance{{payable, 0, 440}, {cash, 0, -440}}},
		{"a payout of one", shop("order 1 7 3 0 1 0 1x1", "ship 1 0 1"), "payout 3 0", 1, nil, []balance{{payable, 0, 1}, {cash, 0, -1}}},
		{"a second payout", shipped2("payout 3 0", "ship 1 0 1"), "payout 3 0", 720, nil, []balance{{payable, 0, 720}, {cash, 0, -720}}},
		{"a release", shipped2(), "release 3 0 100", 100, nil, []balance{{held, 0, 100}, {payable, 0, -100}}},
		{"a release of one", shipped2(), "release 3 0 1", 1, nil, []balance{{held, 0, 1}, {payable, 0, -1}}},
		{"a release of all", shipped2(), "release 3 0 360", 360, nil, []balance{{held, 0, 360}, {payable, 0, -360}}},
		{"a release of the rest", shipped2("release 3 0 300"), "release 3 0 60", 60, nil, []balance{{held, 0, 60}, {payable, 0, -60}}},
		{"a release of a currency", usd, "release 3 1 18", 18, nil, []balance{{held, 1, 18}, {payable, 1, -18}}},
		{"a release when the merchant owes", shipped2("refund 1 0 2"), "release 3 0 360", 360, nil, []balance{{held, 0, 360}, {payable, 0, -360}}},
	})
}

func TestPayoffCommand(t *testing.T) {
	settle := func(day int64) func(*impl.World) {
		return func(w *impl.World) { w.Orders[0], _, _, _ = impl.OrderSettle(w.Orders[0], day) }
	}
	checkAppliedRows(t, []appliedRow{
		{"before anything is due", shipped2(), "payoff 1", 2000, settle(0), []balance{{cash, 0, 2000}, {owed, 0, -2040}, {interest, 0, 40}}},
		{"a day before", shipped2("day 30"), "payoff 1", 2000, settle(30), []balance{{cash, 0, 2000}, {owed, 0, -2040}, {interest, 0, 40}}},
		{"on a due day", shipped2("day 31"), "payoff 1", 2020, settle(31), []balance{{cash, 0, 2020}, {owed, 0, -2040}, {interest, 0, 20}}},
		{"on the last due day", shipped2("day 31", "day 36", "pay 1 0 1020", "day 59"), "payoff 1", 1020, settle(59), []balance{{cash, 0, 1020}, {owed, 0, -1020}}},
		{"with late fees", shipped2("day 90"), "payoff 1", 3040, settle(90), []balance{{cash, 0, 3040}, {owed, 0, -3040}}},
		{"after a payment", shipped2("pay 1 0 1025"), "payoff 1", 1000, settle(0), []balance{{cash, 0, 1000}, {owed, 0, -1015}, {interest, 0, 15}}},
		{"without interest", shop("order 1 7 3 0 2 0 3x1000", "ship 1 0 1"), "payoff 1", 1000, settle(0), []balance{{cash, 0, 1000}, {owed, 0, -1000}}},
		{"of one", shop("order 1 7 3 0 2 0 1x1", "ship 1 0 1"), "payoff 1", 1, settle(0), []balance{{cash, 0, 1}, {owed, 0, -1}}},
		{"of several plans", shipped2("day 31", "ship 1 1 1"), "payoff 1", 2521, settle(31), []balance{{cash, 0, 2521}, {owed, 0, -2551}, {interest, 0, 30}}},
		{"in USD", shop("rate 1 0 1 2", "order 1 7 3 1 2 1200 3x1000", "ship 1 0 2"), "payoff 1", 2000, settle(0), []balance{{cash, 1, 2000}, {owed, 1, -2040}, {interest, 1, 40}}},
		{"of interest alone, once it is due", shipped2("pay 1 0 1020", "refund 1 0 1", "day 59"), "payoff 1", 20, settle(59), []balance{{cash, 0, 20}, {owed, 0, -20}}},
		{"with a dispute open", shipped2("dispute 1 700"), "payoff 1", 2000, settle(0), []balance{{cash, 0, 2000}, {owed, 0, -2040}, {interest, 0, 40}}},
	})
}
