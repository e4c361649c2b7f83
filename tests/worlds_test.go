package tests

import (
	"fmt"
	"math"
	"slices"
	"strings"
	"testing"

	"loop.example/g00714/impl"
)

var extremes = []int64{math.MinInt64, math.MinInt64 + 1, -1, math.MaxInt64 - 1, math.MaxInt64}

// plainOrder is one of the least orders of a day.
func plainOrder(id, consumer, merchant, day int64) impl.Order {
	return impl.Order{Id: id, Consumer: consumer, Merchant: merchant, Day: day, N: 1, Num: 1, Den: 1, Items: []impl.Item{{Qty: 1, Price: 1}}}
}

// smallWorld has day 50 and two of each list; the ids 4 and 5 occur in each kind.
func smallWorld() impl.World {
	return impl.World{
		Day:       50,
		Rates:     ratesOn(40, 50),
		Consumers: []impl.Consumer{{Id: 5, Limit: 100}, {Id: 4, Limit: 200}},
		Merchants: []impl.Merchant{{Id: 4, Discount: 100, Reserve: 200}, {Id: 5}},
		Orders:    []impl.Order{plainOrder(5, 4, 5, 50), plainOrder(4, 5, 4, 20)},
		Ledger:    []impl.Post{{A: owed, N: 100}, {A: cash, N: -100}},
		Done:      []impl.Done{{Key: "b", Answer: impl.Answer{N: 7}}, {Key: "a"}},
	}
}

// greatWorld has as much of everything as there can be.
func greatWorld() impl.World {
	w := impl.World{Day: impl.MaxDay, Ledger: consumers(impl.MaxPosts)}
	for i := range int64(impl.MaxPeople) {
		w.Consumers = append(w.Consumers, impl.Consumer{Id: 999 - i, Limit: most})
		w.Merchants = append(w.Merchants, impl.Merchant{Id: 1 + i, Discount: 10000, Reserve: 10000})
		o := greatOrder()
		o.Id, o.Consumer, o.Merchant = 990-i, 999-i, 1+i
		w.Orders = append(w.Orders, o)
	}
	for i := range int64(impl.MaxRates) {
		w.Rates = append(w.Rates, impl.Rate{Day: impl.MaxDay - impl.MaxRates + 1 + i, To: 1, Num: 1000000, Den: 1000000})
	}
	for i := range impl.MaxCmds {
		w.Done = append(w.Done, impl.Done{Key: fmt.Sprintf("abcdefghij%d", 10+i), Answer: impl.Answer{N: most}})
	}
	return w
}

// checkForm checks that a world is valid or not; the functions of chapter 10 agree on that.
func checkForm(t *testing.T, name string, w impl.World, want bool) {
	t.Helper()
	if impl.WorldOk(w) != want {
		t.Errorf("%s: WorldOk returns %v", name, !want)
	}
	if code := impl.Audited(w); (code != impl.AuForm) != want {
		t.Errorf("%s: Audited returns %d", name, code)
	}
	for cur := int64(-1); cur <= 6; cur++ {
		if totals := impl.Totals(w, cur); (len(totals) == 3) != (want && cur >= 0 && cur < 6) || len(totals) != 0 && len(totals) != 3 {
			t.Errorf("%s: Totals of %d returns %v", name, cur, totals)
		}
	}
}

// checkSmall checks the small world after a change.
func checkSmall(t *testing.T, name string, want bool, change func(*impl.World)) {
	t.Helper()
	w := smallWorld()
	change(&w)
	checkForm(t, name, w, want)
}

func TestValidWorlds(t *testing.T) {
	empty := impl.World{Rates: []impl.Rate{}, Consumers: []impl.Consumer{}, Merchants: []impl.Merchant{}, Orders: []impl.Order{}, Ledger: []impl.Post{}, Done: []impl.Done{}}
	for name, w := range map[string]impl.World{"the zero value": {}, "empty lists": empty, "a small world": smallWorld(), "a great world": greatWorld()} {
		checkForm(t, name, w, true)
	}
	for n := range everyKind() {
		checkForm(t, "a world of Play", worldOf(t, commandsOf(t, everyKind()[:n])), true)
	}
}

func TestWorldDay(t *testing.T) {
	for _, day := range []int64{0, 1, 99999, 100000} {
		checkForm(t, fmt.Sprint("day ", day), impl.World{Day: day}, true)
	}
	for _, day := range append([]int64{-2, 100001, 100002}, extremes...) {
		checkForm(t, fmt.Sprint("day ", day), impl.World{Day: day}, false)
		checkSmall(t, fmt.Sprint("a small world of day ", day), false, func(w *impl.World) { w.Day = day })
	}
}

func TestWorldRates(t *testing.T) {
	for _, r := range []struct {
		days []int64
		want bool
	}{
		{[]int64{0}, true}, {[]int64{49}, true}, {[]int64{50}, true}, {[]int64{50, 50}, true}, {[]int64{0, 50}, true},
		{[]int64{51}, false}, {[]int64{100000}, false}, {[]int64{20, 51}, false}, {[]int64{50, 51}, false}, {[]int64{51, 51, 52}, false},
		{[]int64{51, 50}, false}, {[]int64{50, 49}, false}, {[]int64{-1}, false}, {[]int64{100001}, false}, {[]int64{3, 2, 9}, false},
		{slices.Repeat([]int64{9}, 60), true}, {slices.Repeat([]int64{9}, 61), false}, {slices.Repeat([]int64{9}, 500), false},
		{append(slices.Repeat([]int64{9}, 59), 50), true}, {append(slices.Repeat([]int64{9}, 59), 51), false},
	} {
		checkSmall(t, fmt.Sprint("rates of ", r.days), r.want, func(w *impl.World) { w.Rates = ratesOn(r.days...) })
	}
	for i, bad := range []impl.Rate{
		{}, {Day: 45, From: 1, To: 1, Num: 1, Den: 1}, {Day: 45, From: 6, Num: 1, Den: 1}, {Day: 45, From: 1, To: -1, Num: 1, Den: 1},
		{Day: 45, From: 1, Num: 0, Den: 1}, {Day: 45, From: 1, Num: 1, Den: 1000001}, {Day: 45, From: 1, Num: math.MinInt64, Den: 1},
	} {
		for position := range 3 {
			checkSmall(t, fmt.Sprintf("the rate %d at %d", i, position), false, func(w *impl.World) {
				w.Rates = slices.Insert(ratesOn(45, 45), position, bad)
			})
		}
	}
	checkForm(t, "a rate of tomorrow", impl.World{Rates: ratesOn(1)}, false)
	checkForm(t, "a rate of today", impl.World{Rates: ratesOn(0)}, true)
}

func TestWorldPeople(t *testing.T) {
	for n, want := range map[int64]bool{0: true, 1: true, 19: true, 20: true, 21: false, 22: false, 900: false} {
		w := impl.World{}
		for i := range n {
			w.Consumers = append(w.Consumers, impl.Consumer{Id: i + 1, Limit: 5})
		}
		checkForm(t, fmt.Sprint(n, " consumers"), w, want)
		w = impl.World{}
		for i := range n {
			w.Merchants = append(w.Merchants, impl.Merchant{Id: i + 1})
		}
		checkForm(t, fmt.Sprint(n, " merchants"), w, want)
		w = impl.World{Consumers: []impl.Consumer{{Id: 7, Limit: 900}}, Merchants: []impl.Merchant{{Id: 3}}}
		for i := range n {
			w.Orders = append(w.Orders, plainOrder(i+1, 7, 3, 0))
		}
		checkForm(t, fmt.Sprint(n, " orders"), w, want)
	}
	w := greatWorld()
	w.Consumers = append(w.Consumers, impl.Consumer{Id: 500})
	checkForm(t, "one consumer too many", w, false)
	w = greatWorld()
	w.Merchants = append(w.Merchants, impl.Merchant{Id: 500})
	checkForm(t, "one merchant too many", w, false)
	w = greatWorld()
	w.Orders = append(w.Orders, plainOrder(500, 999, 1, 0))
	checkForm(t, "one order too many", w, false)
}

func TestWorldEqualIds(t *testing.T) {
	// The third element has the id of none, of the first and of the second one.
	for id, want := range map[int64]bool{6: true, 5: false, 4: false} {
		for position := range 3 {
			name := fmt.Sprintf("the id %d at %d", id, position)
			checkSmall(t, name, want, func(w *impl.World) {
				w.Consumers = slices.Insert(w.Consumers, position, impl.Consumer{Id: id, Limit: 77})
			})
			checkSmall(t, name, want, func(w *impl.World) {
				w.Merchants = slices.Insert(w.Merchants, position, impl.Merchant{Id: id, Reserve: 77})
			})
			checkSmall(t, name, want, func(w *impl.World) {
				w.Orders = slices.Insert(w.Orders, position, plainOrder(id, 4, 4, 30))
			})
		}
	}
	for _, change := range []func(*impl.World){
		func(w *impl.World) { w.Consumers[19].Id = 999 },
		func(w *impl.World) { w.Consumers[0] = w.Consumers[1] },
		func(w *impl.World) { w.Merchants[19].Id = 1 },
		func(w *impl.World) { w.Merchants[0] = w.Merchants[1] },
		func(w *impl.World) { w.Orders[19].Id = 990 },
		func(w *impl.World) { w.Orders[0] = w.Orders[1] },
		func(w *impl.World) { w.Done[59].Key = w.Done[0].Key },
		func(w *impl.World) { w.Done[0] = w.Done[1] },
	} {
		w := greatWorld()
		change(&w)
		checkForm(t, "a great world with two that are equal", w, false)
	}
	one := impl.World{Consumers: []impl.Consumer{{Id: 5, Limit: 9}}, Merchants: []impl.Merchant{{Id: 5}}, Orders: []impl.Order{plainOrder(5, 5, 5, 0)}, Done: []impl.Done{{Key: "5"}}}
	checkForm(t, "the same id in each kind", one, true)
}

func TestWorldNumbersOfPeople(t *testing.T) {
	for _, f := range []struct {
		name      string
		of        func(*impl.World) *int64
		low, high int64
	}{
		{"the id of a consumer", func(w *impl.World) *int64 { return &w.Consumers[2].Id }, 1, 999},
		{"the limit", func(w *impl.World) *int64 { return &w.Consumers[2].Limit }, 0, most},
		{"the id of a merchant", func(w *impl.World) *int64 { return &w.Merchants[2].Id }, 1, 999},
		{"the discount", func(w *impl.World) *int64 { return &w.Merchants[2].Discount }, 0, 10000},
		{"the reserve", func(w *impl.World) *int64 { return &w.Merchants[2].Reserve }, 0, 10000},
		{"the id of an order", func(w *impl.World) *int64 { return &w.Orders[2].Id }, 1, 999},
		{"the day of an order", func(w *impl.World) *int64 { return &w.Orders[2].Day }, 0, 50},
		{"the limit of the first consumer", func(w *impl.World) *int64 { return &w.Consumers[0].Limit }, 0, most},
		{"the discount of the first merchant", func(w *impl.World) *int64 { return &w.Merchants[0].Discount }, 0, 10000},
		{"the reserve of the second merchant", func(w *impl.World) *int64 { return &w.Merchants[1].Reserve }, 0, 10000},
	} {
		check := func(n int64, want bool) {
			t.Helper()
			checkSmall(t, fmt.Sprint(f.name, ": ", n), want, func(w *impl.World) {
				w.Consumers = append(w.Consumers, impl.Consumer{Id: 6, Limit: 1})
				w.Merchants = append(w.Merchants, impl.Merchant{Id: 6})
				w.Orders = append(w.Orders, plainOrder(6, 4, 4, 1))
				*f.of(w) = n
			})
		}
		for _, n := range []int64{f.low, f.low + 1, f.high - 1, f.high} {
			check(n, true)
		}
		for _, n := range append([]int64{f.low - 1, f.high + 1}, extremes...) {
			check(n, false)
		}
	}
}

func TestWorldOrders(t *testing.T) {
	with := func(position int, o impl.Order) func(*impl.World) {
		return func(w *impl.World) {
			w.Consumers = append(w.Consumers, impl.Consumer{Id: 8, Limit: most})
			w.Merchants = append(w.Merchants, impl.Merchant{Id: 7})
			w.Orders = slices.Insert(w.Orders, position, o)
		}
	}
	for position := range 3 {
		checkSmall(t, "a valid order", true, with(position, mixedOrder()))
		for i, o := range invalidOrders() {
			checkSmall(t, fmt.Sprintf("the order %d, which is not valid, at %d", i, position), false, with(position, o))
		}
		for _, r := range []struct {
			name     string
			consumer int64
			merchant int64
			day      int64
			want     bool
		}{
			{"all exist", 8, 7, 50, true},
			{"a later day", 8, 7, 51, false},
			{"the last day", 8, 7, impl.MaxDay, false},
			{"no such consumer", 6, 7, 50, false},
			{"no such merchant", 8, 6, 50, false},
			{"neither", 6, 6, 50, false},
			{"the consumer is a merchant", 7, 7, 50, false},
			{"the merchant is a consumer", 8, 8, 50, false},
			{"the other way round", 7, 8, 50, false},
			{"the consumer is an order", 1, 7, 50, false},
		} {
			o := mixedOrder()
			o.Id, o.Consumer, o.Merchant, o.Day = 1, r.consumer, r.merchant, r.day
			checkSmall(t, fmt.Sprintf("an order at %d: %s", position, r.name), r.want, with(position, o))
		}
	}
	// The Parts may be due on any days.
	o := newOrder()
	o.Id, o.Consumer, o.Merchant, o.Day, o.Items[0].Shipped = 1, 8, 7, 50, 3
	for _, due := range []int64{0, 49, 50, 51, impl.MaxDay} {
		o.Plans = []impl.Plan{{Parts: []impl.Part{{Due: due, P: 3000}}}}
		checkSmall(t, "an order with a Part that is due on another day", true, with(0, o))
	}
	checkSmall(t, "no consumers", false, func(w *impl.World) { w.Consumers = nil })
	checkSmall(t, "no merchants", false, func(w *impl.World) { w.Merchants = nil })
	checkSmall(t, "neither", false, func(w *impl.World) { w.Consumers, w.Merchants = nil, nil })
	checkSmall(t, "no orders", true, func(w *impl.World) { w.Orders = nil })
	checkSmall(t, "nobody and no orders", true, func(w *impl.World) { w.Consumers, w.Merchants, w.Orders = nil, nil, nil })
}

func TestWorldLedger(t *testing.T) {
	post := func(p impl.Post) []impl.Post { return []impl.Post{p} }
	for _, r := range []struct {
		name string
		l    []impl.Post
		want bool
	}{
		{"none", nil, true},
		{"that does not sum to 0", post(impl.Post{A: owed, N: 5}), true},
		{"of accounts of nobody", []impl.Post{{A: impl.Acct{Class: 1, Id: 900, Sub: 1}, N: 1}, {A: impl.Acct{Class: 2, Id: 900, Sub: 2}, N: -1}}, true},
		{"as great as possible", consumers(400), true},
		{"one too many", consumers(401), false},
		{"far too many", consumers(900), false},
		{"not in order", []impl.Post{{A: cash, N: 5}, {A: owed, N: -5}}, false},
		{"twice the same", []impl.Post{{A: owed, N: 5}, {A: owed, N: -5}}, false},
		{"a balance of 0", post(impl.Post{A: owed}), false},
		{"no account", post(impl.Post{N: 5}), false},
		{"no currency", post(impl.Post{A: owed, Cur: 6, N: 5}), false},
		{"a negative currency", post(impl.Post{A: owed, Cur: -1, N: 5}), false},
		{"the greatest balance", post(impl.Post{A: owed, N: mostBalance}), true},
		{"a balance too great", post(impl.Post{A: owed, N: mostBalance + 1}), false},
		{"the least balance", post(impl.Post{A: owed, N: -mostBalance}), true},
		{"a balance too small", post(impl.Post{A: owed, N: -mostBalance - 1}), false},
		{"the greatest number", post(impl.Post{A: owed, N: math.MaxInt64}), false},
		{"the least number", post(impl.Post{A: owed, N: math.MinInt64}), false},
	} {
		checkSmall(t, "a ledger: "+r.name, r.want, func(w *impl.World) { w.Ledger = r.l })
		checkForm(t, "a ledger alone: "+r.name, impl.World{Ledger: r.l}, r.want)
	}
}

func TestWorldDone(t *testing.T) {
	for n, want := range map[int]bool{0: true, 1: true, 59: true, 60: true, 61: false, 62: false, 1000: false} {
		w := impl.World{}
		for i := range n {
			w.Done = append(w.Done, impl.Done{Key: fmt.Sprint("k", i)})
		}
		checkForm(t, fmt.Sprint(n, " Done"), w, want)
	}
	done := func(name string, want bool, d impl.Done) {
		t.Helper()
		for position := range 3 {
			checkSmall(t, fmt.Sprintf("%s at %d", name, position), want, func(w *impl.World) { w.Done = slices.Insert(w.Done, position, d) })
		}
	}
	for _, key := range []string{"c", "0", "z9", "abcdefghijkl", "zzzzzzzzzzzz", "000000000000", "aa", "ba"} {
		done(fmt.Sprintf("the Key %q", key), true, impl.Done{Key: key})
	}
	for _, key := range []string{"a", "b", "", "abcdefghijklm", strings.Repeat("k", 1000), "A", "a ", " a", "a-", "é", "\x00", "\xff", "k\n", "`", "{", "/", ":"} {
		done(fmt.Sprintf("the Key %q", key), false, impl.Done{Key: key})
	}
	done("a Key twice, with another answer", false, impl.Done{Key: "b", Answer: impl.Answer{N: 8}})
	for _, code := range append([]int64{1, 2, 3, 4, 5, 6, 7, 8, 9, 10, 11, 12, -2}, extremes...) {
		done(fmt.Sprint("the Code ", code), false, impl.Done{Key: "k", Answer: impl.Answer{Code: code}})
	}
	for _, n := range append([]int64{0, 1, most, most + 1}, extremes...) {
		done(fmt.Sprint("the N ", n), true, impl.Done{Key: "k", Answer: impl.Answer{N: n}})
	}
}

// TestTwoFaultsOfForm breaks two rules, which do not make a world valid.
func TestTwoFaultsOfForm(t *testing.T) {
	faults := []func(*impl.World){
		func(w *impl.World) { w.Day = -1 },
		func(w *impl.World) { w.Rates[0].Num = 0 },
		func(w *impl.World) { w.Consumers[0].Limit = -1 },
		func(w *impl.World) { w.Merchants[0].Reserve = -1 },
		func(w *impl.World) { w.Orders[0].Upheld = 1 },
		func(w *impl.World) { w.Orders[1].Consumer = 900 },
		func(w *impl.World) { w.Ledger[0].N = 0 },
		func(w *impl.World) { w.Done[0].Answer.Code = 2 },
	}
	for _, first := range faults {
		for _, second := range faults {
			checkSmall(t, "two faults", false, func(w *impl.World) { first(w); second(w) })
		}
	}
}
