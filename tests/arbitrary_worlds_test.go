package tests

import (
	"fmt"
	"math/rand"
	"reflect"
	"slices"
	"strings"
	"testing"

	"loop.example/g00714/impl"
)

// formOf is the text of the rules of WorldOk, one after the other.
func formOf(w impl.World) bool {
	if w.Day < 0 || w.Day > 100000 || !impl.RatesOk(w.Rates) || !impl.LedgerOk(w.Ledger) {
		return false
	}
	if len(w.Consumers) > 20 || len(w.Merchants) > 20 || len(w.Orders) > 20 || len(w.Done) > 60 {
		return false
	}
	for _, r := range w.Rates {
		if r.Day > w.Day {
			return false
		}
	}
	names := map[string]bool{}
	fresh := func(kind string, id any) bool {
		name := fmt.Sprint(kind, id)
		known := names[name]
		names[name] = true
		return !known
	}
	for _, c := range w.Consumers {
		if !fresh("consumer", c.Id) || !impl.AcctOk(consumerAcct(c.Id, 1)) || c.Limit < 0 || c.Limit > most {
			return false
		}
	}
	for _, m := range w.Merchants {
		if !fresh("merchant", m.Id) || !impl.CmdOk(impl.Cmd{Kind: impl.CmMerchant, Key: "k", A: m.Id, B: m.Discount, C: m.Reserve}) {
			return false
		}
	}
	for _, o := range w.Orders {
		if !fresh("order", o.Id) || !impl.OrderOk(o) || o.Day > w.Day || fresh("consumer", o.Consumer) || fresh("merchant", o.Merchant) {
			return false
		}
	}
	for _, d := range w.Done {
		if !fresh("done", d.Key) || !impl.CmdOk(impl.Cmd{Kind: impl.CmDay, Key: d.Key}) || d.Answer.Code != 0 {
			return false
		}
	}
	return true
}

// auditOf is the text of the codes of Audited, one after the other.
func auditOf(w impl.World) int64 {
	if !formOf(w) {
		return 1
	}
	for cur := range int64(6) {
		if classSum(w, 1, cur)+classSum(w, 2, cur)+classSum(w, 3, cur) != 0 {
			return 2
		}
	}
	for _, c := range w.Consumers {
		for cur := range int64(6) {
			owes := int64(0)
			for _, o := range w.Orders {
				if o.Consumer == c.Id && o.Cur == cur {
					owes += unpaidSum(impl.OrderSums(o))
				}
			}
			if owes != postIn(w, 1, c.Id, 1, cur) {
				return 3
			}
		}
	}
	for _, c := range w.Consumers {
		if exposureIn(w, c.Id) > c.Limit {
			return 4
		}
	}
	for cur := range int64(6) {
		for _, c := range w.Consumers {
			if postIn(w, 1, c.Id, 2, cur) > 0 {
				return 5
			}
		}
		for _, m := range w.Merchants {
			if postIn(w, 2, m.Id, 2, cur) > 0 {
				return 5
			}
		}
	}
	return 0
}

// numbersIn returns the numbers and the lists in a value that can be set.
func numbersIn(v reflect.Value) (numbers, lists []reflect.Value) {
	switch v.Kind() {
	case reflect.Int64:
		numbers = append(numbers, v)
	case reflect.Struct:
		for i := range v.NumField() {
			n, l := numbersIn(v.Field(i))
			numbers, lists = append(numbers, n...), append(lists, l...)
		}
	case reflect.Slice:
		lists = append(lists, v)
		for i := range v.Len() {
			n, l := numbersIn(v.Index(i))
			numbers, lists = append(numbers, n...), append(lists, l...)
		}
	}
	return numbers, lists
}

// spoilNumber sets a number to one nearby, to a small one or to one at a limit.
func spoilNumber(source *rand.Rand, v reflect.Value) {
	n := v.Int()
	near := []int64{n + 1, n - 1, n + source.Int63n(100), source.Int63n(10), 0, most, most + 1, 1000000, 100001, mostBalance + 1}
	v.SetInt(append(near, extremes...)[source.Intn(len(near)+len(extremes))])
}

// spoilList takes an element out, puts one in twice, exchanges two, or makes a list very long.
func spoilList(source *rand.Rand, v reflect.Value) {
	if v.Len() == 0 {
		v.Set(reflect.MakeSlice(v.Type(), source.Intn(3), 5))
		return
	}
	i, j := source.Intn(v.Len()), source.Intn(v.Len())
	switch source.Intn(6) {
	case 0:
		v.Set(reflect.AppendSlice(v.Slice3(0, i, i), v.Slice(i+1, v.Len())))
	case 1:
		v.Set(reflect.Append(v.Slice3(0, v.Len(), v.Len()), v.Index(i)))
	case 2:
		reflect.Swapper(v.Interface())(i, j)
	case 3:
		v.Set(v.Slice(0, i))
	case 4:
		v.Set(reflect.Zero(v.Type()))
	case 5:
		long := v.Slice3(0, v.Len(), v.Len())
		for range source.Intn(70) {
			long = reflect.Append(long, v.Index(i))
		}
		v.Set(long)
	}
}

// TestArbitraryWorlds compares all functions of chapter 10 with its text, for worlds of Play with one to three changes anywhere.
func TestArbitraryWorlds(t *testing.T) {
	source := rand.New(rand.NewSource(102))
	codes := map[int64]int{}
	for range 60 {
		list := randomList(t, source)
		for range 100 {
			w, _ := impl.Play(list[:source.Intn(len(list)+1)])
			for range 1 + source.Intn(3) {
				numbers, lists := numbersIn(reflect.ValueOf(&w).Elem())
				switch kind := source.Intn(11); {
				case kind < 6:
					spoilNumber(source, numbers[source.Intn(len(numbers))])
				case kind < 8:
					spoilList(source, lists[source.Intn(len(lists))])
				case kind == 8 && len(w.Consumers) > 0:
					c := &w.Consumers[source.Intn(len(w.Consumers))]
					c.Limit = max(exposureIn(w, c.Id)-source.Int63n(2), 0)
				default: // amounts from one account to another one, so that the sums remain
					if n := source.Int63n(200) - 100; impl.LedgerOk(w.Ledger) && n != 0 {
						accounts := places()
						to, from := accounts[source.Intn(len(accounts))], accounts[source.Intn(len(accounts))]
						w.Ledger, _ = impl.Posted(w.Ledger, []impl.Post{{A: to.A, Cur: to.Cur, N: n}, {A: from.A, Cur: to.Cur, N: -n}})
					}
				}
			}
			code, totals := impl.Audited(w), impl.Totals(w, 1)
			if code != auditOf(w) || impl.WorldOk(w) != formOf(w) || (len(totals) == 3) != formOf(w) {
				t.Fatalf("the audit %d, not %d, and WorldOk %v of\n%+v", code, auditOf(w), impl.WorldOk(w), w)
			}
			codes[code]++
		}
	}
	for code := int64(impl.AuOk); code <= impl.AuSign; code++ {
		if codes[code] < 50 {
			t.Errorf("the code %d occurs %d times", code, codes[code])
		}
	}
}

// TestStrangeWorlds checks that the functions return for worlds with nothing in order; each of these is found to have no form.
func TestStrangeWorlds(t *testing.T) {
	source := rand.New(rand.NewSource(103))
	numbers := append([]int64{0, 1, 5, 999, 1000, most, mostBalance}, extremes...)
	for range 3000 {
		w := impl.World{Day: -1}
		for _, list := range []any{&w.Rates, &w.Consumers, &w.Merchants, &w.Orders, &w.Ledger, &w.Done} {
			makeStrange(source, reflect.ValueOf(list).Elem(), numbers, 0)
		}
		checkForm(t, "a strange world", w, false)
		w.Day = numbers[source.Intn(len(numbers))]
		if got := impl.Audited(w); got != auditOf(w) {
			t.Fatalf("Audited returns %d, not %d, for %+v", got, auditOf(w), w)
		}
	}
	many := make([]impl.Order, 100000)
	long := impl.World{Orders: many, Consumers: make([]impl.Consumer, 100000), Merchants: make([]impl.Merchant, 100000), Ledger: make([]impl.Post, 100000), Done: make([]impl.Done, 100000), Rates: make([]impl.Rate, 100000)}
	checkForm(t, "long lists", long, false)
	o := plainOrder(1, 7, 3, 0)
	o.Items, o.Plans = slices.Repeat(o.Items, 100000), slices.Repeat([]impl.Plan{{Parts: make([]impl.Part, 1000)}}, 10000)
	checkForm(t, "an order with long lists", impl.World{Consumers: []impl.Consumer{{Id: 7}}, Merchants: []impl.Merchant{{Id: 3}}, Orders: []impl.Order{o}}, false)
	checkForm(t, "a long Key", impl.World{Done: []impl.Done{{Key: strings.Repeat("k", 1000000)}}}, false)
}

// makeStrange fills a value with numbers in any places and lists of any length.
func makeStrange(source *rand.Rand, v reflect.Value, numbers []int64, depth int) {
	switch v.Kind() {
	case reflect.Int64:
		v.SetInt(numbers[source.Intn(len(numbers))])
	case reflect.String:
		v.SetString([]string{"", "a", "é", "abcdefghijklm"}[source.Intn(4)])
	case reflect.Struct:
		for i := range v.NumField() {
			makeStrange(source, v.Field(i), numbers, depth)
		}
	case reflect.Slice:
		n := []int{0, 1, 2, 3, 9, 25}[source.Intn(6)]
		if depth == 0 && source.Intn(20) == 0 {
			n = 70
		}
		v.Set(reflect.MakeSlice(v.Type(), n, n))
		for i := range n {
			makeStrange(source, v.Index(i), numbers, depth+1)
		}
	}
}

// withSpare returns a copy of a value, in which each list has two further elements behind it.
func withSpare(v reflect.Value) reflect.Value {
	result := reflect.New(v.Type()).Elem()
	result.Set(v)
	switch v.Kind() {
	case reflect.Struct:
		for i := range v.NumField() {
			result.Field(i).Set(withSpare(v.Field(i)))
		}
	case reflect.Slice:
		n := v.Len()
		result.Set(reflect.MakeSlice(v.Type(), n+2, n+2))
		for i := range n {
			result.Index(i).Set(withSpare(v.Index(i)))
		}
		for i := range 2 {
			numbers, _ := numbersIn(result.Index(n + i))
			for _, number := range numbers {
				number.SetInt(-77)
			}
		}
		result.Set(result.Slice(0, n))
	}
	return result
}

// atFullLength returns a copy of a value, in which the lists are as long as their capacity.
func atFullLength(v reflect.Value) reflect.Value {
	result := reflect.New(v.Type()).Elem()
	result.Set(v)
	switch v.Kind() {
	case reflect.Struct:
		for i := range v.NumField() {
			result.Field(i).Set(atFullLength(v.Field(i)))
		}
	case reflect.Slice:
		n := v.Cap()
		result.Set(reflect.MakeSlice(v.Type(), n, n))
		for i := range n {
			result.Index(i).Set(atFullLength(v.Slice(0, n).Index(i)))
		}
	}
	return result
}

func TestAuditsLeaveTheirArguments(t *testing.T) {
	worlds := []impl.World{{}, {Day: -1}, smallWorld(), greatWorld(), exampleWorld(t), tradeWorld(t)}
	for i := range 4 { // worlds that are found to have a fault
		w := exampleWorld(t)
		switch i {
		case 0:
			w.Done = append(w.Done, w.Done[0])
		case 1:
			w.Ledger = changedAlone(w.Ledger, cash, 0, 1)
		case 2:
			w.Consumers[0].Limit = 5
		case 3:
			w.Ledger[0].N = 0
		}
		worlds = append(worlds, w)
	}
	for i, plain := range worlds {
		w := withSpare(reflect.ValueOf(plain)).Interface().(impl.World)
		before := atFullLength(reflect.ValueOf(w)).Interface()
		ok, code, totals := impl.WorldOk(w), impl.Audited(w), impl.Totals(w, 0)
		again := impl.Totals(w, 0)
		if after := atFullLength(reflect.ValueOf(w)).Interface(); !reflect.DeepEqual(before, after) {
			t.Errorf("the world %d changed from\n%+v to\n%+v", i, before, after)
		}
		if impl.WorldOk(w) != ok || impl.Audited(w) != code || !slices.Equal(again, totals) {
			t.Errorf("the world %d: %v, %d, %v, and then %v, %d, %v", i, ok, code, totals, impl.WorldOk(w), impl.Audited(w), again)
		}
		if impl.WorldOk(plain) != ok || impl.Audited(plain) != code || !slices.Equal(impl.Totals(plain, 0), totals) {
			t.Errorf("the world %d: spare capacity changes a result", i)
		}
		checkApart(t, w, totals, again)
		for k := range totals {
			totals[k] = -99
		}
		if !slices.Equal(impl.Totals(w, 0), again) {
			t.Errorf("the world %d: a result that is written into changes the next one", i)
		}
	}
}
