package tests

import (
	"fmt"
	"math"
	"math/rand"
	"reflect"
	"slices"
	"testing"

	"loop.example/g00714/impl"
)

// everyKind is a list of commands of every Kind, all of them accepted, with two consumers, two merchants and three currencies.
func everyKind() []string {
	return shipped2(
		"consumer 8 50000", "merchant 4 0 10000", "rate 1 0 1 2", "rate 2 0 1 3",
		"order 2 8 4 1 3 700 4x1000 5x20", "order 3 7 4 1 1 0 9x100", "order 4 8 3 2 2 0 3x7", "ship 2 0 2", "ship 3 0 5", "ship 4 0 3",
		"pay 1 1 500", "pay 2 1 5000", "pay 4 2 10", "refund 1 0 1", "refund 2 0 1", "dispute 1 20", "rule 1 1", "dispute 4 5",
		"payout 3 0", "release 4 1 1300", "payout 4 1", "day 90", "payoff 3", "ship 2 1 2", "pay 4 2 30", "rule 4 0",
	)
}

// postIn searches the ledger itself.
func postIn(w impl.World, class, id, sub, cur int64) int64 {
	for _, p := range w.Ledger {
		if p.A.Class == class && p.A.Id == id && p.A.Sub == sub && p.Cur == cur {
			return p.N
		}
	}
	return 0
}

// exposureIn is -1 if there is no such consumer.
func exposureIn(w impl.World, consumer int64) int64 {
	if !slices.ContainsFunc(w.Consumers, func(c impl.Consumer) bool { return c.Id == consumer }) {
		return -1
	}
	sum := int64(0)
	for _, o := range w.Orders {
		if o.Consumer == consumer {
			n, _ := impl.MulDiv(impl.OpenOf(o), o.Num, o.Den)
			sum += n
		}
	}
	return sum
}

// checkViews compares all queries of a list with a world; how often each of them finds something is added to the counts.
func checkViews(t *testing.T, list []impl.Cmd, w impl.World, ids, curs []int64, found map[string]int) {
	t.Helper()
	check := func(name string, id, cur, got, want int64) {
		t.Helper()
		if got != want {
			t.Errorf("%s of %d in the currency %d, after %d commands, is %d, not %d", name, id, cur, len(list), got, want)
		}
		if want > 0 || want < -1 {
			found[name]++
		}
	}
	for _, cur := range curs {
		for _, id := range ids {
			check("OwedBy", id, cur, impl.OwedBy(list, id, cur), postIn(w, 1, id, 1, cur))
			check("PayableTo", id, cur, impl.PayableTo(list, id, cur), postIn(w, 2, id, 1, cur))
			check("HeldFrom", id, cur, impl.HeldFrom(list, id, cur), postIn(w, 2, id, 2, cur))
		}
		check("CashOf", 0, cur, impl.CashOf(list, cur), postIn(w, 3, 0, 1, cur))
	}
	for _, id := range ids {
		check("ExposureOf", id, 0, impl.ExposureOf(list, id), exposureIn(w, id))
		checkOrderIn(t, list, w, id)
	}
}

func checkOrderIn(t *testing.T, list []impl.Cmd, w impl.World, id int64) {
	t.Helper()
	i := slices.IndexFunc(w.Orders, func(o impl.Order) bool { return o.Id == id })
	want := impl.Order{}
	if i >= 0 {
		want = w.Orders[i]
	}
	if o, ok := impl.OrderIn(list, id); ok != (i >= 0) || !sameOrder(o, want) {
		t.Errorf("OrderIn(%d) after %d commands = %+v, %v, not %+v", id, len(list), o, ok, want)
	}
}

var viewNames = []string{"OwedBy", "PayableTo", "HeldFrom", "CashOf", "ExposureOf"}

func TestViewsAfterEachCommand(t *testing.T) {
	list := commandsOf(t, everyKind())
	ids := []int64{1, 2, 3, 4, 5, 7, 8, 0, -1, 999, 1000, math.MinInt64, math.MaxInt64}
	curs := []int64{0, 1, 2, 3, 5, -1, 6, math.MinInt64, math.MaxInt64}
	kinds, found := map[int64]bool{}, map[string]int{}
	for n := range len(list) + 1 {
		checkViews(t, list[:n], worldOf(t, list[:n]), ids, curs, found)
		if n > 0 {
			kinds[list[n-1].Kind] = true
		}
	}
	if len(kinds) != impl.CmPayoff {
		t.Error("the list has not all Kinds:", kinds)
	}
	for _, name := range viewNames {
		if found[name] < 10 {
			t.Errorf("%s finds something %d times", name, found[name])
		}
	}
}

func TestViewsOfRandomLists(t *testing.T) {
	source := rand.New(rand.NewSource(91))
	found := map[string]int{}
	for range 12 {
		list := randomList(t, source)
		for _, n := range []int{impl.MaxCmds / 2, impl.MaxCmds} {
			w, _ := impl.Play(list[:n])
			checkViews(t, list[:n], w, []int64{0, 1, 2, 3, 4}, []int64{-1, 0, 1, 2, 3, 6}, found)
		}
	}
	for _, name := range viewNames {
		if found[name] < 10 {
			t.Errorf("%s finds something %d times", name, found[name])
		}
	}
}

// TestBalancesOfAllAccounts has a consumer and a merchant of each of two ids.
func TestBalancesOfAllAccounts(t *testing.T) {
	list := commandsOf(t, shipped2("rate 1 0 1 2", "consumer 3 900", "merchant 7 0 0", "order 2 3 7 1 1 0 4x100", "ship 2 0 3", "pay 2 1 350", "pay 1 1 200"))
	for _, r := range []struct {
		name      string
		got, want int64
	}{
		{"OwedBy 7 EUR", impl.OwedBy(list, 7, 0), 1940}, {"OwedBy 7 USD", impl.OwedBy(list, 7, 1), 0},
		{"OwedBy 3 EUR", impl.OwedBy(list, 3, 0), 0}, {"OwedBy 3 USD, whose credit is 50", impl.OwedBy(list, 3, 1), 0},
		{"PayableTo 3 EUR", impl.PayableTo(list, 3, 0), -1440}, {"PayableTo 3 USD", impl.PayableTo(list, 3, 1), 0},
		{"PayableTo 7 EUR", impl.PayableTo(list, 7, 0), 0}, {"PayableTo 7 USD", impl.PayableTo(list, 7, 1), -300},
		{"HeldFrom 3 EUR", impl.HeldFrom(list, 3, 0), -360}, {"HeldFrom 3 USD", impl.HeldFrom(list, 3, 1), 0},
		{"HeldFrom 7 EUR", impl.HeldFrom(list, 7, 0), 0}, {"HeldFrom 7 USD", impl.HeldFrom(list, 7, 1), 0},
		{"CashOf EUR", impl.CashOf(list, 0), 0}, {"CashOf USD", impl.CashOf(list, 1), 550}, {"CashOf JPY", impl.CashOf(list, 2), 0},
		{"ExposureOf 7", impl.ExposureOf(list, 7), 3421}, {"ExposureOf 3", impl.ExposureOf(list, 3), 50},
		{"ExposureOf 8", impl.ExposureOf(list, 8), -1}, {"ExposureOf 1, which is an order", impl.ExposureOf(list, 1), -1},
	} {
		if r.got != r.want {
			t.Errorf("%s is %d, not %d", r.name, r.got, r.want)
		}
	}
	for _, cur := range []int64{-1, 6, math.MinInt64, math.MaxInt64} {
		if impl.OwedBy(list, 7, cur) != 0 || impl.PayableTo(list, 3, cur) != 0 || impl.HeldFrom(list, 3, cur) != 0 || impl.CashOf(list, cur) != 0 {
			t.Errorf("there is a balance in the currency %d", cur)
		}
	}
}

func TestExposureOf(t *testing.T) {
	setup := []string{"consumer 7 100000", "consumer 8 100000", "merchant 3 1000 2000", "rate 1 0 1 2"}
	for _, r := range []struct {
		name  string
		texts []string
		want  int64
	}{
		{"no orders", nil, 0},
		{"an order", []string{"order 1 7 3 0 2 1200 3x1000 1x501"}, 3501},
		{"two orders", []string{"order 1 7 3 0 2 1200 3x1000", "order 2 7 3 0 2 0 1x501"}, 3501},
		{"the order of another consumer", []string{"order 1 8 3 0 2 1200 3x1000 1x501"}, 0},
		{"in another currency", []string{"order 1 7 3 1 2 0 3x1000"}, 1500},
		{"in two currencies", []string{"order 1 7 3 1 2 0 3x1000", "order 2 7 3 0 1 0 1x7"}, 1507},
		{"each order is rounded alone, to even above", []string{"order 1 7 3 1 1 0 3x1", "order 2 7 3 1 1 0 3x1"}, 4},
		{"each order is rounded alone, to even below", []string{"order 1 7 3 1 1 0 5x1", "order 2 7 3 1 1 0 5x1"}, 4},
		{"the rate of the order remains", []string{"order 1 7 3 1 1 0 3x1000", "day 5", "rate 1 0 2 1"}, 1500},
		{"interest does not count", []string{"order 1 7 3 0 2 10000 3x1000", "ship 1 0 3"}, 3000},
		{"fees do not count", []string{"order 1 7 3 0 2 0 3x1000", "ship 1 0 3", "day 400"}, 3000},
		{"what is paid of the price does not count", []string{"order 1 7 3 0 2 0 3x1000", "ship 1 0 2", "pay 1 0 1200"}, 1800},
		{"what is paid too much does not count", []string{"order 1 7 3 0 2 0 3x1000", "ship 1 0 2", "pay 1 0 2500"}, 1000},
		{"what is refunded does not count", []string{"order 1 7 3 0 2 0 3x1000", "ship 1 0 2", "refund 1 0 1"}, 2000},
		{"what is disputed counts", []string{"order 1 7 3 0 2 0 3x1000", "ship 1 0 2", "dispute 1 300"}, 3000},
		{"what is upheld does not count", []string{"order 1 7 3 0 2 0 3x1000", "ship 1 0 2", "dispute 1 300", "rule 1 1"}, 2700},
		{"all is paid off", []string{"order 1 7 3 0 2 0 3x1000", "ship 1 0 3", "payoff 1"}, 0},
		{"a rejected order", []string{"order 1 7 3 0 2 0 3x1000", "order 2 7 3 0 2 0 1x100000"}, 3000},
	} {
		if got := impl.ExposureOf(commandsOf(t, slices.Concat(setup, r.texts)), 7); got != r.want {
			t.Errorf("%s: the exposure is %d, not %d", r.name, got, r.want)
		}
	}
}

func TestOrderIn(t *testing.T) {
	list := commandsOf(t, everyKind())
	w := worldOf(t, list)
	if len(w.Orders) != 4 {
		t.Fatal("orders:", w.Orders)
	}
	for id := int64(-2); id <= 1001; id++ {
		checkOrderIn(t, list, w, id)
	}
	full := commandsOf(t, fullShop())
	for id := int64(0); id <= impl.MaxPeople+1; id++ {
		checkOrderIn(t, full, worldOf(t, full), id)
	}
	want := impl.Order{Id: 1, Consumer: 7, Merchant: 3, N: 2, Rate: 1200, Num: 1, Den: 1, Items: []impl.Item{{Qty: 3, Price: 1000, Shipped: 2}, {Qty: 1, Price: 501}}, Plans: []impl.Plan{
		{Parts: []impl.Part{{Due: 31, P: 1000, I: 20, PaidI: 20, PaidP: 5}, {Due: 59, P: 1000, I: 20}}},
	}}
	if o, ok := impl.OrderIn(commandsOf(t, shipped2("pay 1 0 25")), 1); !ok || !sameOrder(o, want) {
		t.Errorf("%+v, not %+v", o, want)
	}
	// A rejected order is none, and a repeated command does not replace one.
	list = withKeys(t, "a consumer 7 100", "b merchant 3 0 0", "c order 1 7 3 0 1 0 1x101", "d order 2 7 3 0 1 0 1x5", "d order 9 7 3 0 1 0 1x6")
	for id, there := range map[int64]bool{1: false, 2: true, 9: false} {
		if o, ok := impl.OrderIn(list, id); ok != there || ok != (o.Id == id) {
			t.Errorf("OrderIn(%d) = %v, %v", id, o, ok)
		}
	}
}

// filled has n commands, after which something is found by every query.
func filled(t *testing.T, n int) []impl.Cmd {
	t.Helper()
	texts := shipped2("pay 1 0 500")
	for i := len(texts); i < n; i++ {
		texts = append(texts, fmt.Sprintf("rate 4 5 1 %d", i))
	}
	return commandsOf(t, texts)
}

func checkNothing(t *testing.T, name string, list []impl.Cmd) {
	t.Helper()
	for _, id := range []int64{0, 1, 3, 7} {
		for _, cur := range []int64{-1, 0, 1, 6} {
			if impl.OwedBy(list, id, cur) != 0 || impl.PayableTo(list, id, cur) != 0 || impl.HeldFrom(list, id, cur) != 0 || impl.CashOf(list, cur) != 0 {
				t.Errorf("%s: there is a balance of %d in %d", name, id, cur)
			}
		}
		if n := impl.ExposureOf(list, id); n != -1 {
			t.Errorf("%s: the exposure of %d is %d", name, id, n)
		}
		if o, ok := impl.OrderIn(list, id); ok || !sameOrder(o, impl.Order{}) {
			t.Errorf("%s: there is an order %d: %+v", name, id, o)
		}
	}
}

func TestViewsLengths(t *testing.T) {
	for _, n := range []int{5, 59, 60} {
		list := filled(t, n)
		if impl.OwedBy(list, 7, 0) != 1540 || impl.PayableTo(list, 3, 0) != -1440 || impl.HeldFrom(list, 3, 0) != -360 || impl.CashOf(list, 0) != 500 {
			t.Errorf("%d commands: the balances are others", n)
		}
		if o, ok := impl.OrderIn(list, 1); !ok || o.Items[0].Shipped != 2 || impl.ExposureOf(list, 7) != 3021 {
			t.Errorf("%d commands: %+v, %v, %d", n, o, ok, impl.ExposureOf(list, 7))
		}
	}
	for _, n := range []int{61, 62, 1000} {
		checkNothing(t, fmt.Sprint(n, " commands"), filled(t, n))
	}
	list := filled(t, 60)
	checkNothing(t, "one more that is repeated", append(slices.Clone(list), list[0]))
	checkNothing(t, "one more that is not valid", append(slices.Clone(list), impl.Cmd{}))
	checkNothing(t, "one more before the others", append([]impl.Cmd{{}}, list...))
	checkNothing(t, "no commands", nil)
	checkNothing(t, "an empty list", []impl.Cmd{})
	checkNothing(t, "commands that are not valid", make([]impl.Cmd, 60))
}

// auditExample is the list of the examples of the chapters 9 and 10.
func auditExample(t *testing.T) []impl.Cmd {
	t.Helper()
	return withKeys(t, "a consumer 7 5000", "b merchant 3 1000 5000", "c order 1 7 3 0 1 0 3x1000", "d ship 1 0 2", "e pay 1 0 500")
}

func TestViewsExample(t *testing.T) {
	list := auditExample(t)
	if impl.OwedBy(list, 7, 0) != 1500 || impl.PayableTo(list, 3, 0) != -900 || impl.HeldFrom(list, 3, 0) != -900 || impl.CashOf(list, 0) != 500 || impl.ExposureOf(list, 7) != 2500 {
		t.Error(impl.OwedBy(list, 7, 0), impl.PayableTo(list, 3, 0), impl.HeldFrom(list, 3, 0), impl.CashOf(list, 0), impl.ExposureOf(list, 7))
	}
}

// viewsOf returns the results of all queries.
func viewsOf(list []impl.Cmd) []any {
	var results []any
	for _, id := range []int64{1, 2, 3, 7, 8} {
		o, ok := impl.OrderIn(list, id)
		results = append(results, o, ok, impl.ExposureOf(list, id))
		for cur := range int64(3) {
			results = append(results, impl.OwedBy(list, id, cur), impl.PayableTo(list, id, cur), impl.HeldFrom(list, id, cur), impl.CashOf(list, cur))
		}
	}
	return results
}

func TestViewsLeaveTheirArguments(t *testing.T) {
	list, full, items := spareList(t)
	_, fullBefore, itemsBefore := spareList(t)
	first := viewsOf(list)
	viewsOf(append(slices.Clone(list), make([]impl.Cmd, 60)...))
	second := viewsOf(list)
	if !reflect.DeepEqual(full, fullBefore) || !reflect.DeepEqual(items, itemsBefore) {
		t.Fatal("an argument changed:", full, items)
	}
	if !reflect.DeepEqual(first, second) {
		t.Fatal("equal arguments lead to", first, second)
	}
	w, _ := impl.Play(list)
	checkApart(t, slices.Concat([]any{list, w}, first, second)...)
	for _, result := range first {
		if o, ok := result.(impl.Order); ok {
			spoil(o)
		}
	}
	if third := viewsOf(list); !reflect.DeepEqual(third, second) || !reflect.DeepEqual(full, fullBefore) || !reflect.DeepEqual(items, itemsBefore) {
		t.Error("a result that is written into changes", third)
	}
}

func TestOrdersInListsAreApart(t *testing.T) {
	source := rand.New(rand.NewSource(92))
	for range 10 {
		list := randomList(t, source)
		for i := range list { // the copies of a command in a list of their own
			list[i].Items = slices.Clone(list[i].Items)
		}
		checkApart(t, append([]any{list}, append(viewsOf(list), viewsOf(list)...)...)...)
	}
}
