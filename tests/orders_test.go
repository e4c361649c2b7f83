package tests

import (
	"fmt"
	"math"
	"math/rand"
	"reflect"
	"slices"
	"testing"

	"loop.example/g00714/impl"
)

// newOrder is the order of the examples: 3 pieces at 1000 and 1 piece at 501, in 2 Parts without interest.
func newOrder() impl.Order {
	return impl.Order{Id: 1, Consumer: 2, Merchant: 3, Day: 10, N: 2, Num: 1, Den: 1, Items: []impl.Item{{Qty: 3, Price: 1000}, {Qty: 1, Price: 501}}}
}

// mixedOrder has five plans: a paid one, an empty one, a partly paid one, one with nothing to pay, and an unpaid one.
// Of its price, 475 are not paid: 60 in the plan 2 and 415 in the plan 4; 625 are paid: 500 in the plan 0 and 125 in the plan 2.
func mixedOrder() impl.Order {
	return impl.Order{
		Id: 9, Consumer: 8, Merchant: 7, Cur: 4, Day: 50, N: 3, Rate: 1200, Num: 5, Den: 6, Open: 11, Upheld: 40,
		Items: []impl.Item{{Qty: 9, Price: 100, Shipped: 7, Refunded: 2}, {Qty: 4, Price: 320, Shipped: 2}},
		Plans: []impl.Plan{
			{Parts: []impl.Part{{Due: 80, P: 300, I: 6, PaidP: 300, PaidI: 6}, {Due: 110, P: 200, I: 6, F: 9, PaidP: 200, PaidI: 6, PaidF: 9}}},
			{},
			{Parts: []impl.Part{{Due: 90, P: 100, I: 5, F: 7, PaidP: 75, PaidI: 5, PaidF: 7}, {Due: 120, P: 85, I: 4, F: 3, PaidP: 50, PaidI: 1}}},
			{Parts: []impl.Part{{Due: 95}}},
			{Parts: []impl.Part{{Due: 100, P: 250, I: 8}, {Due: 130, P: 165, I: 7, F: 2}}},
		},
	}
}

// tidy returns a copy in which empty lists are nil, as they are the same value.
func tidy(o impl.Order) impl.Order {
	o.Items = append([]impl.Item(nil), o.Items...)
	plans := o.Plans
	o.Plans = nil
	for _, p := range plans {
		o.Plans = append(o.Plans, impl.Plan{Parts: append([]impl.Part(nil), p.Parts...)})
	}
	return o
}

func sameOrder(a, b impl.Order) bool { return reflect.DeepEqual(tidy(a), tidy(b)) }

// partsIn returns pointers to the Parts of all plans of an order, in order.
func partsIn(o *impl.Order) []*impl.Part {
	var list []*impl.Part
	for _, p := range o.Plans {
		list = append(list, pointersTo(p.Parts)...)
	}
	return list
}

func TestOrderOkNumbers(t *testing.T) {
	const least, greatest = math.MinInt64, math.MaxInt64
	for _, f := range []struct {
		name      string
		of        func(*impl.Order) *int64
		low, high int64
	}{
		{"Id", func(o *impl.Order) *int64 { return &o.Id }, 1, 999},
		{"Consumer", func(o *impl.Order) *int64 { return &o.Consumer }, 1, 999},
		{"Merchant", func(o *impl.Order) *int64 { return &o.Merchant }, 1, 999},
		{"Cur", func(o *impl.Order) *int64 { return &o.Cur }, 0, 5},
		{"Day", func(o *impl.Order) *int64 { return &o.Day }, 0, impl.MaxDay},
		{"N", func(o *impl.Order) *int64 { return &o.N }, 1, 24},
		{"Rate", func(o *impl.Order) *int64 { return &o.Rate }, 0, 10000},
		{"Num", func(o *impl.Order) *int64 { return &o.Num }, 1, 1000000},
		{"Den", func(o *impl.Order) *int64 { return &o.Den }, 1, 1000000},
		{"Open", func(o *impl.Order) *int64 { return &o.Open }, 0, most},
	} {
		for _, n := range []int64{f.low, f.low + 1, f.high - 1, f.high} {
			o := mixedOrder()
			*f.of(&o) = n
			if !impl.OrderOk(o) {
				t.Errorf("OrderOk with %s %d returns false", f.name, n)
			}
		}
		for _, n := range []int64{f.low - 1, f.high + 1, -1, least, greatest} {
			o := mixedOrder()
			*f.of(&o) = n
			if impl.OrderOk(o) {
				t.Errorf("OrderOk with %s %d returns true", f.name, n)
			}
		}
	}
}

func TestOrderOkItems(t *testing.T) {
	const least, greatest = math.MinInt64, math.MaxInt64
	for _, r := range []struct {
		item impl.Item
		want bool
	}{
		{impl.Item{Qty: 1, Price: 1}, true}, {impl.Item{Qty: 1000, Price: 1000000}, true},
		{impl.Item{Qty: 1000, Price: 1000000, Shipped: 1000}, true}, {impl.Item{Qty: 1000, Price: 1000000, Shipped: 1000, Refunded: 1000}, true},
		{impl.Item{Qty: 5, Price: 7, Shipped: 3, Refunded: 3}, true}, {impl.Item{Qty: 5, Price: 7, Shipped: 5, Refunded: 2}, true},
		{impl.Item{}, false}, {impl.Item{Price: 1}, false}, {impl.Item{Qty: -1, Price: 1}, false}, {impl.Item{Qty: 1001, Price: 1}, false},
		{impl.Item{Qty: 1}, false}, {impl.Item{Qty: 1, Price: -1}, false}, {impl.Item{Qty: 1, Price: 1000001}, false},
		{impl.Item{Qty: 5, Price: 7, Shipped: 6}, false}, {impl.Item{Qty: 5, Price: 7, Shipped: 6, Refunded: 6}, false}, {impl.Item{Qty: 5, Price: 7, Shipped: -1}, false}, {impl.Item{Qty: 5, Price: 7, Shipped: -1, Refunded: -1}, false},
		{impl.Item{Qty: 5, Price: 7, Refunded: 1}, false}, {impl.Item{Qty: 5, Price: 7, Shipped: 3, Refunded: 4}, false}, {impl.Item{Qty: 5, Price: 7, Shipped: 3, Refunded: -1}, false},
		{impl.Item{Qty: greatest, Price: 1}, false}, {impl.Item{Qty: 1, Price: greatest}, false}, {impl.Item{Qty: greatest, Price: greatest, Shipped: greatest}, false},
		{impl.Item{Qty: least, Price: least}, false}, {impl.Item{Qty: 5, Price: 7, Shipped: greatest, Refunded: greatest}, false}, {impl.Item{Qty: 5, Price: 7, Shipped: least, Refunded: least}, false},
	} {
		for position := range 3 {
			o := newOrder()
			o.Items[0].Shipped = 3
			o.Items = slices.Insert(o.Items, position, r.item)
			// The plan contains what was shipped and not refunded, so that the item alone decides, also one with more refunded than shipped.
			value := 3000 + r.item.Price*(r.item.Shipped-r.item.Refunded)
			o.Plans = []impl.Plan{{Parts: []impl.Part{{Due: 5, P: value}}}}
			if got := impl.OrderOk(o); got != r.want {
				t.Errorf("OrderOk with the item %v at %d = %v", r.item, position, got)
			}
		}
	}
	for n, want := range map[int]bool{0: false, 1: true, 7: true, 8: true, 9: false, 100: false} {
		o := newOrder()
		o.Items = slices.Repeat([]impl.Item{{Qty: 1, Price: 1}}, n)
		if impl.OrderOk(o) != want {
			t.Errorf("OrderOk with %d items = %v", n, !want)
		}
	}
}

func TestOrderOkPlans(t *testing.T) {
	for n, want := range map[int]bool{0: true, 1: true, 7: true, 8: true, 9: false, 100: false} {
		o := newOrder()
		o.Plans = make([]impl.Plan, n)
		if impl.OrderOk(o) != want {
			t.Errorf("OrderOk with %d plans = %v", n, !want)
		}
	}
	for i, l := range invalidPlans() {
		for position := range 3 {
			o := newOrder()
			o.Items[0].Shipped = 3
			o.Plans = []impl.Plan{{Parts: []impl.Part{{Due: 5, P: 1000}}}, {Parts: []impl.Part{{Due: 5, P: 2000}}}}
			o.Plans = slices.Insert(o.Plans, position, impl.Plan{Parts: l})
			// What the plans contain is shipped, as far as the limits of an order allow it.
			total := int64(0)
			for _, p := range partsIn(&o) {
				total += p.P
			}
			o.Items[0].Qty, o.Items[0].Shipped, o.Items[0].Price = 1, 1, max(1, min(total, 1000000))
			if impl.OrderOk(o) {
				t.Errorf("OrderOk with the invalid plan %d at %d", i, position)
			}
		}
	}
}

// greatOrder has everything at its limits: 8 items with a value of 8000000000, and 8 plans that contain it.
func greatOrder() impl.Order {
	o := impl.Order{Id: 999, Consumer: 999, Merchant: 999, Cur: 5, Day: impl.MaxDay, N: 24, Rate: 10000, Num: 1000000, Den: 1000000, Open: most}
	for range impl.MaxItems {
		o.Items = append(o.Items, impl.Item{Qty: 1000, Price: 1000000, Shipped: 1000})
		plan := make([]impl.Part, impl.MaxParts)
		for i := range plan {
			plan[i] = impl.Part{Due: impl.MaxDay - impl.MaxParts + 1 + int64(i), I: most, F: most}
		}
		plan[impl.MaxParts-1].P = 1000000000
		o.Plans = append(o.Plans, impl.Plan{Parts: plan})
	}
	return o
}

func TestOrderOkBalance(t *testing.T) {
	if o := greatOrder(); !impl.OrderOk(o) || impl.ValueOf(o) != 8000000000 || impl.ShippedOf(o) != 8000000000 || impl.OpenOf(o) != 8000000000 {
		t.Error("the greatest order")
	}
	for i, change := range []func(*impl.Order){
		func(o *impl.Order) { o.Upheld++ },
		func(o *impl.Order) { o.Upheld-- },
		func(o *impl.Order) { o.Items[0].Shipped++ },
		func(o *impl.Order) { o.Items[0].Shipped-- },
		func(o *impl.Order) { o.Items[0].Refunded++ },
		func(o *impl.Order) { o.Items[0].Refunded-- },
		func(o *impl.Order) { o.Items[0].Price++ },
		func(o *impl.Order) { o.Items[1].Shipped++ },
		func(o *impl.Order) { o.Plans[4].Parts[1].P++ },
		func(o *impl.Order) { o.Plans[2].Parts[0].P-- },
		func(o *impl.Order) { o.Plans = o.Plans[1:] },
		func(o *impl.Order) { o.Plans = nil },
	} {
		o := mixedOrder()
		if !impl.OrderOk(o) {
			t.Fatal("the order is not valid")
		}
		change(&o)
		if impl.OrderOk(o) {
			t.Errorf("OrderOk after the change %d", i)
		}
	}
	for i, change := range []func(*impl.Order){
		func(o *impl.Order) { o.Items[0].Qty++; o.Items[1].Price--; o.Upheld -= 2 },
		func(o *impl.Order) { o.Plans[4].Parts[0].I++; o.Plans[4].Parts[0].F++; o.Plans[4].Parts[0].PaidP++ },
		func(o *impl.Order) { o.Items[0].Shipped++; o.Items[0].Refunded++ },
		func(o *impl.Order) { o.Items[0].Shipped++; o.Upheld += 100 },
		func(o *impl.Order) { o.Plans[4].Parts[1].P -= 3; o.Upheld += 3 },
		func(o *impl.Order) { o.Plans[0].Parts, o.Plans[1].Parts = nil, o.Plans[0].Parts },
	} {
		o := mixedOrder()
		change(&o)
		if !impl.OrderOk(o) {
			t.Errorf("OrderOk after the balanced change %d returns false", i)
		}
	}
	// Upheld has limits of its own, but what was shipped is less than the upper one.
	for _, upheld := range []int64{-1, 1, most, most + 1, math.MinInt64, math.MaxInt64} {
		o := newOrder()
		o.Upheld = upheld
		if upheld == -1 {
			o.Plans = []impl.Plan{{Parts: []impl.Part{{P: 1}}}}
		}
		if impl.OrderOk(o) {
			t.Errorf("OrderOk with %d upheld", upheld)
		}
	}
	o := newOrder()
	o.Items[0].Shipped, o.Upheld = 3, 3000
	if !impl.OrderOk(o) {
		t.Error("all of what was shipped is upheld")
	}
}

func TestOrderValues(t *testing.T) {
	for i, r := range []struct {
		o                              impl.Order
		value, shipped, refunded, open int64
		sums                           impl.Part
	}{
		{newOrder(), 3501, 0, 0, 3501, impl.Part{}},
		{mixedOrder(), 2180, 1340, 200, 1315, impl.Part{P: 1100, I: 36, F: 21, PaidP: 625, PaidI: 18, PaidF: 16}},
		{greatOrder(), 8000000000, 8000000000, 0, 8000000000, impl.Part{P: 8000000000, I: 192 * most, F: 192 * most}},
	} {
		if n := impl.ValueOf(r.o); n != r.value {
			t.Errorf("%d: ValueOf = %d", i, n)
		}
		if n := impl.ShippedOf(r.o); n != r.shipped {
			t.Errorf("%d: ShippedOf = %d", i, n)
		}
		if n := impl.RefundedOf(r.o); n != r.refunded {
			t.Errorf("%d: RefundedOf = %d", i, n)
		}
		if n := impl.OpenOf(r.o); n != r.open {
			t.Errorf("%d: OpenOf = %d", i, n)
		}
		if s := impl.OrderSums(r.o); s != r.sums {
			t.Errorf("%d: OrderSums = %v", i, s)
		}
	}
}

// outcome is everything that a function of an order returns.
type outcome struct {
	o    impl.Order
	part impl.Part
	a, b int64
	code int64
}

func (x outcome) same(y outcome) bool {
	return sameOrder(x.o, y.o) && x.part == y.part && x.a == y.a && x.b == y.b && x.code == y.code
}

func shipped(o impl.Order, item, qty, day int64) outcome {
	o, value, interest, code := impl.OrderShip(o, item, qty, day)
	return outcome{o: o, a: value, b: interest, code: code}
}

func paidIn(o impl.Order, n int64) outcome {
	o, paid, left, code := impl.OrderPay(o, n)
	return outcome{o: o, part: paid, a: left, code: code}
}

func taken(o impl.Order, n int64) outcome {
	o, back, code := impl.OrderTake(o, n)
	return outcome{o: o, a: back, code: code}
}

func refunded(o impl.Order, item, qty int64) outcome {
	o, value, back, code := impl.OrderRefund(o, item, qty)
	return outcome{o: o, a: value, b: back, code: code}
}

func late(o impl.Order, day, fee, grace int64) outcome {
	o, fees, code := impl.OrderLate(o, day, fee, grace)
	return outcome{o: o, a: fees, code: code}
}

func settled(o impl.Order, day int64) outcome {
	o, paid, decrease, code := impl.OrderSettle(o, day)
	return outcome{o: o, a: paid, b: decrease, code: code}
}

func checkOutcome(t *testing.T, name string, got, want outcome) {
	t.Helper()
	if !got.same(want) {
		t.Errorf("%s: %+v; want %+v", name, got, want)
	}
}

// checkCode expects a rejection, in which all results but the code are zero.
func checkCode(t *testing.T, name string, got outcome, code int64) {
	t.Helper()
	checkOutcome(t, name, got, outcome{code: code})
}

func invalidOrders() []impl.Order {
	var list []impl.Order
	for _, change := range []func(*impl.Order){
		func(o *impl.Order) { *o = impl.Order{} },
		func(o *impl.Order) { o.Id = 1000 },
		func(o *impl.Order) { o.Cur = 6 },
		func(o *impl.Order) { o.N = 0 },
		func(o *impl.Order) { o.Open = -1 },
		func(o *impl.Order) { o.Upheld = 41 },
		func(o *impl.Order) { o.Items = nil },
		func(o *impl.Order) { o.Items[1].Refunded = -1 },
		func(o *impl.Order) { o.Plans = append(o.Plans, make([]impl.Plan, 4)...) },
		func(o *impl.Order) { o.Plans[4].Parts[1].Due = 100 },
		func(o *impl.Order) { o.Plans[2].Parts[0].PaidP = 101 },
	} {
		o := mixedOrder()
		change(&o)
		list = append(list, o)
	}
	return list
}

func TestInvalidOrders(t *testing.T) {
	for i, o := range invalidOrders() {
		if impl.OrderOk(o) || impl.ValueOf(o) != 0 || impl.ShippedOf(o) != 0 || impl.RefundedOf(o) != 0 || impl.OrderSums(o) != (impl.Part{}) || impl.OpenOf(o) != 0 {
			t.Errorf("%d: the order is not valid: %+v", i, o)
		}
		name := fmt.Sprint("the invalid order ", i)
		// First with arguments that are accepted otherwise, then with ones for which other codes apply too.
		checkCode(t, name, shipped(o, 0, 1, 50), impl.OrBad)
		checkCode(t, name, shipped(o, -1, 0, -1), impl.OrBad)
		checkCode(t, name, paidIn(o, 1), impl.OrBad)
		checkCode(t, name, paidIn(o, 0), impl.OrBad)
		checkCode(t, name, taken(o, 1), impl.OrBad)
		checkCode(t, name, taken(o, 0), impl.OrBad)
		checkCode(t, name, refunded(o, 0, 1), impl.OrBad)
		checkCode(t, name, refunded(o, 8, 0), impl.OrBad)
		checkCode(t, name, late(o, 200, 500, 5), impl.OrBad)
		checkCode(t, name, late(o, -1, -1, -1), impl.OrBad)
		checkCode(t, name, settled(o, 100), impl.OrBad)
		checkCode(t, name, settled(o, -1), impl.OrBad)
	}
	if impl.OrOk != 0 || impl.OrBad != 1 || impl.OrItem != 2 || impl.OrQty != 3 || impl.OrPlan != 4 || impl.OrAmount != 5 || impl.MaxItems != 8 {
		t.Error("the constants")
	}
}

func TestOrderShip(t *testing.T) {
	for _, r := range []struct {
		name                           string
		o                              impl.Order
		item, qty, n, rate             int64
		value, interest, before, after int64
	}{
		{name: "the example", o: newOrder(), item: 0, qty: 2, n: 2, value: 2000, after: 2},
		{name: "one piece", o: newOrder(), item: 0, qty: 1, n: 2, value: 1000, after: 1},
		{name: "all pieces", o: newOrder(), item: 0, qty: 3, n: 2, value: 3000, after: 3},
		{name: "the last item", o: newOrder(), item: 1, qty: 1, n: 2, value: 501, after: 1},
		{name: "behind other plans", o: mixedOrder(), item: 0, qty: 1, n: 3, rate: 1200, value: 100, interest: 3, before: 7, after: 8},
		{name: "all that are left", o: mixedOrder(), item: 1, qty: 2, n: 3, rate: 1200, value: 640, interest: 19, before: 2, after: 4},
	} {
		const day = 60
		want := tidy(r.o)
		parts, ok := impl.PlanMade(r.value, r.n, day, r.rate)
		want.Plans = append(want.Plans, impl.Plan{Parts: parts})
		if !ok || want.Items[r.item].Shipped != r.before || impl.SumsOf(parts).I != r.interest {
			t.Fatal(r.name, parts, ok)
		}
		want.Items[r.item].Shipped = r.after
		checkOutcome(t, r.name, shipped(r.o, r.item, r.qty, day), outcome{o: want, a: r.value, b: r.interest})
		if !impl.OrderOk(want) {
			t.Error(r.name, "is not valid afterwards")
		}
	}
}

func TestOrderShipRejects(t *testing.T) {
	const least, greatest = math.MinInt64, math.MaxInt64
	full := mixedOrder()
	full.Plans = append(full.Plans, make([]impl.Plan, 3)...)
	for _, r := range []struct {
		name                 string
		o                    impl.Order
		item, qty, day, want int64
	}{
		{"before the first item", mixedOrder(), -1, 1, 60, impl.OrItem}, {"behind the last item", mixedOrder(), 2, 1, 60, impl.OrItem},
		{"no item", mixedOrder(), least, 1, 60, impl.OrItem}, {"no item", mixedOrder(), greatest, 1, 60, impl.OrItem}, {"no item", mixedOrder(), 1 << 32, 1, 60, impl.OrItem},
		{"no pieces", mixedOrder(), 0, 0, 60, impl.OrQty}, {"less than none", mixedOrder(), 0, -1, 60, impl.OrQty}, {"one more than is left", mixedOrder(), 0, 3, 60, impl.OrQty}, {"the refunded pieces", mixedOrder(), 0, 4, 60, impl.OrQty},
		{"no quantity", mixedOrder(), 1, least, 60, impl.OrQty}, {"no quantity", mixedOrder(), 1, greatest, 60, impl.OrQty},
		{"all were shipped", greatOrder(), 0, 1, 60, impl.OrQty},
		{"no day", mixedOrder(), 0, 2, -1, impl.OrPlan}, {"no day", mixedOrder(), 0, 2, impl.MaxDay + 1, impl.OrPlan}, {"no day", mixedOrder(), 0, 2, least, impl.OrPlan}, {"no day", mixedOrder(), 0, 2, greatest, impl.OrPlan},
		{"due days behind the last day", mixedOrder(), 0, 2, impl.MaxDay, impl.OrPlan}, {"due days behind the last day", mixedOrder(), 0, 2, dayOf(t, "2243-07-18"), impl.OrPlan},
		{"MaxItems plans", full, 0, 2, 60, impl.OrPlan},
		{"item, quantity and plan", full, 2, 0, -1, impl.OrItem}, {"item and quantity", mixedOrder(), -1, 1001, 60, impl.OrItem}, {"item and plan", full, 2, 1, 60, impl.OrItem},
		{"quantity and plan", full, 0, 3, 60, impl.OrQty}, {"quantity and day", mixedOrder(), 0, 0, -1, impl.OrQty},
	} {
		checkCode(t, r.name, shipped(r.o, r.item, r.qty, r.day), r.want)
	}
	if x := shipped(mixedOrder(), 0, 2, dayOf(t, "2243-07-17")); x.code != impl.OrOk {
		t.Error("due on the last day:", x)
	}
	full.Plans = full.Plans[:7]
	if x := shipped(full, 0, 2, 60); x.code != impl.OrOk || len(x.o.Plans) != 8 {
		t.Error("the eighth plan:", x)
	}
	great := impl.Order{Id: 1, Consumer: 1, Merchant: 1, N: 24, Rate: 10000, Num: 1, Den: 1, Items: []impl.Item{{Qty: 1000, Price: 1000000}}}
	if x := shipped(great, 0, 1000, 0); x.code != impl.OrOk || x.a != 1000000000 || x.b != 2000000000 || impl.OrderSums(x.o) != (impl.Part{P: 1000000000, I: 2000000000}) {
		t.Error("the greatest value:", x)
	}
}

func TestOrderPay(t *testing.T) {
	// The unpaid sums, in order: 25 in the first Part of the plan 2; 3, 3 and 35 in its second Part; 8 and 250, and 2, 7 and 165, in the plan 4.
	for _, r := range []struct {
		n    int64
		paid impl.Part
		last []impl.Part // the paid fields of the four Parts of the plans 2 and 4
		left int64
	}{
		{1, impl.Part{PaidP: 1}, []impl.Part{{PaidP: 1}, {}, {}, {}}, 0},
		{25, impl.Part{PaidP: 25}, []impl.Part{{PaidP: 25}, {}, {}, {}}, 0},
		{27, impl.Part{PaidP: 25, PaidF: 2}, []impl.Part{{PaidP: 25}, {PaidF: 2}, {}, {}}, 0},
		{30, impl.Part{PaidP: 25, PaidF: 3, PaidI: 2}, []impl.Part{{PaidP: 25}, {PaidF: 3, PaidI: 2}, {}, {}}, 0},
		{66, impl.Part{PaidP: 60, PaidF: 3, PaidI: 3}, []impl.Part{{PaidP: 25}, {PaidF: 3, PaidI: 3, PaidP: 35}, {}, {}}, 0},
		{67, impl.Part{PaidP: 60, PaidF: 3, PaidI: 4}, []impl.Part{{PaidP: 25}, {PaidF: 3, PaidI: 3, PaidP: 35}, {PaidI: 1}, {}}, 0},
		{324, impl.Part{PaidP: 310, PaidF: 3, PaidI: 11}, []impl.Part{{PaidP: 25}, {PaidF: 3, PaidI: 3, PaidP: 35}, {PaidI: 8, PaidP: 250}, {}}, 0},
		{325, impl.Part{PaidP: 310, PaidF: 4, PaidI: 11}, []impl.Part{{PaidP: 25}, {PaidF: 3, PaidI: 3, PaidP: 35}, {PaidI: 8, PaidP: 250}, {PaidF: 1}}, 0},
		{498, impl.Part{PaidP: 475, PaidF: 5, PaidI: 18}, []impl.Part{{PaidP: 25}, {PaidF: 3, PaidI: 3, PaidP: 35}, {PaidI: 8, PaidP: 250}, {PaidF: 2, PaidI: 7, PaidP: 165}}, 0},
		{499, impl.Part{PaidP: 475, PaidF: 5, PaidI: 18}, []impl.Part{{PaidP: 25}, {PaidF: 3, PaidI: 3, PaidP: 35}, {PaidI: 8, PaidP: 250}, {PaidF: 2, PaidI: 7, PaidP: 165}}, 1},
		{most, impl.Part{PaidP: 475, PaidF: 5, PaidI: 18}, []impl.Part{{PaidP: 25}, {PaidF: 3, PaidI: 3, PaidP: 35}, {PaidI: 8, PaidP: 250}, {PaidF: 2, PaidI: 7, PaidP: 165}}, most - 498},
	} {
		want := mixedOrder()
		for i, p := range pointersTo(want.Plans[2].Parts, want.Plans[4].Parts) {
			p.PaidP += r.last[i].PaidP
			p.PaidI += r.last[i].PaidI
			p.PaidF += r.last[i].PaidF
		}
		checkOutcome(t, fmt.Sprint("pay ", r.n), paidIn(mixedOrder(), r.n), outcome{o: want, part: r.paid, a: r.left})
	}
	for _, n := range []int64{1, most} {
		checkOutcome(t, "without plans", paidIn(newOrder(), n), outcome{o: newOrder(), a: n})
	}
	want := greatOrder()
	want.Plans[0].Parts[0].PaidF = most
	checkOutcome(t, "the greatest order", paidIn(greatOrder(), most), outcome{o: want, part: impl.Part{PaidF: most}})
}

func TestOrderPayRejects(t *testing.T) {
	for _, n := range []int64{0, -1, most + 1, math.MinInt64, math.MaxInt64} {
		for _, o := range []impl.Order{newOrder(), mixedOrder(), greatOrder()} {
			checkCode(t, fmt.Sprint("pay ", n), paidIn(o, n), impl.OrAmount)
		}
	}
}

// afterTake returns the mixed order with its P decreased: `cut` by Part of the plans 2 and 4, and `back` of the plans 0, 2 and 4.
func afterTake(cut [4]int64, back [6]int64) impl.Order {
	o := mixedOrder()
	for i, p := range pointersTo(o.Plans[2].Parts, o.Plans[4].Parts) {
		p.P -= cut[i]
	}
	for i, p := range pointersTo(o.Plans[0].Parts, o.Plans[2].Parts, o.Plans[4].Parts) {
		p.P -= back[i]
		p.PaidP -= back[i]
	}
	return o
}

func TestOrderTake(t *testing.T) {
	all := [4]int64{25, 35, 250, 165}
	for _, r := range []struct {
		n    int64
		cut  [4]int64
		back [6]int64
		gave int64
	}{
		{n: 1, cut: [4]int64{0, 0, 0, 1}}, {n: 165, cut: [4]int64{0, 0, 0, 165}}, {n: 166, cut: [4]int64{0, 0, 1, 165}}, {n: 415, cut: [4]int64{0, 0, 250, 165}},
		{n: 416, cut: [4]int64{0, 1, 250, 165}}, {n: 451, cut: [4]int64{1, 35, 250, 165}}, {n: 475, cut: all},
		{n: 476, cut: all, back: [6]int64{0, 0, 0, 1}, gave: 1}, {n: 525, cut: all, back: [6]int64{0, 0, 0, 50}, gave: 50}, {n: 526, cut: all, back: [6]int64{0, 0, 1, 50}, gave: 51},
		{n: 600, cut: all, back: [6]int64{0, 0, 75, 50}, gave: 125}, {n: 601, cut: all, back: [6]int64{0, 1, 75, 50}, gave: 126},
		{n: 801, cut: all, back: [6]int64{1, 200, 75, 50}, gave: 326}, {n: 1099, cut: all, back: [6]int64{299, 200, 75, 50}, gave: 624}, {n: 1100, cut: all, back: [6]int64{300, 200, 75, 50}, gave: 625},
	} {
		want := afterTake(r.cut, r.back)
		want.Upheld = 40 + r.n
		checkOutcome(t, fmt.Sprint("take ", r.n), taken(mixedOrder(), r.n), outcome{o: want, a: r.gave})
		if !impl.OrderOk(want) {
			t.Errorf("after taking %d the order is not valid", r.n)
		}
	}
	if x := taken(greatOrder(), 8000000000); x.code != impl.OrOk || x.a != 0 || x.o.Upheld != 8000000000 || !impl.OrderOk(x.o) {
		t.Error("all of the greatest order:", x.a, x.code)
	}
}

func TestOrderTakeRejects(t *testing.T) {
	for _, n := range []int64{0, -1, 1101, most, most + 1, math.MinInt64, math.MaxInt64} {
		checkCode(t, fmt.Sprint("take ", n), taken(mixedOrder(), n), impl.OrAmount)
	}
	for _, n := range []int64{0, 1, 3501} {
		checkCode(t, "nothing was shipped", taken(newOrder(), n), impl.OrAmount)
	}
	empty := taken(mixedOrder(), 1100).o
	checkCode(t, "all was taken", taken(empty, 1), impl.OrAmount)
	checkCode(t, "more than the greatest order", taken(greatOrder(), 8000000001), impl.OrAmount)
}

func TestOrderRefund(t *testing.T) {
	all := [4]int64{25, 35, 250, 165}
	for _, r := range []struct {
		name      string
		item, qty int64
		value     int64
		cut       [4]int64
		back      [6]int64
		gave      int64
	}{
		{name: "one piece", item: 0, qty: 1, value: 100, cut: [4]int64{0, 0, 0, 100}},
		{name: "of several Parts", item: 0, qty: 4, value: 400, cut: [4]int64{0, 0, 235, 165}},
		{name: "what was paid too", item: 0, qty: 5, value: 500, cut: all, back: [6]int64{0, 0, 0, 25}, gave: 25},
		{name: "of the last item", item: 1, qty: 1, value: 320, cut: [4]int64{0, 0, 155, 165}},
		{name: "all of the last item", item: 1, qty: 2, value: 640, cut: all, back: [6]int64{0, 40, 75, 50}, gave: 165},
	} {
		want := afterTake(r.cut, r.back)
		want.Items[r.item].Refunded += r.qty
		checkOutcome(t, r.name, refunded(mixedOrder(), r.item, r.qty), outcome{o: want, a: r.value, b: r.gave})
		if !impl.OrderOk(want) {
			t.Errorf("%s: the order is not valid afterwards", r.name)
		}
	}
}

// TestOrderRefundExample follows the example of the document.
func TestOrderRefundExample(t *testing.T) {
	o := paidIn(shipped(shipped(newOrder(), 0, 2, 20).o, 1, 1, 40).o, 2200).o
	x := refunded(o, 0, 1)
	if x.code != impl.OrOk || x.a != 1000 || x.b != 699 || x.o.Upheld != 0 || impl.OpenOf(x.o) != 1000 {
		t.Error("the example:", x)
	}
}

func TestOrderRefundRejects(t *testing.T) {
	const least, greatest = math.MinInt64, math.MaxInt64
	for _, r := range []struct {
		name            string
		o               impl.Order
		item, qty, want int64
	}{
		{"before the first item", mixedOrder(), -1, 1, impl.OrItem}, {"behind the last item", mixedOrder(), 2, 1, impl.OrItem}, {"no item", mixedOrder(), least, 1, impl.OrItem}, {"no item", mixedOrder(), greatest, 1, impl.OrItem},
		{"no pieces", mixedOrder(), 0, 0, impl.OrQty}, {"less than none", mixedOrder(), 0, -1, impl.OrQty}, {"one more than was shipped and is not refunded", mixedOrder(), 0, 6, impl.OrQty}, {"one more of the last item", mixedOrder(), 1, 3, impl.OrQty},
		{"no quantity", mixedOrder(), 0, least, impl.OrQty}, {"no quantity", mixedOrder(), 0, greatest, impl.OrQty}, {"nothing was shipped", newOrder(), 0, 1, impl.OrQty},
		{"item and quantity", mixedOrder(), 2, 0, impl.OrItem},
		{"more than the price that is left", taken(mixedOrder(), 1001).o, 0, 1, impl.OrAmount}, {"all is taken", taken(mixedOrder(), 1100).o, 1, 1, impl.OrAmount},
		{"quantity and amount", taken(mixedOrder(), 1100).o, 0, 6, impl.OrQty}, {"item and amount", taken(mixedOrder(), 1100).o, 2, 1, impl.OrItem},
	} {
		checkCode(t, r.name, refunded(r.o, r.item, r.qty), r.want)
	}
	x := refunded(taken(mixedOrder(), 1000).o, 0, 1)
	if x.code != impl.OrOk || x.a != 100 || x.b != 100 || x.o.Upheld != 1040 || impl.OrderSums(x.o).P != 0 || !impl.OrderOk(x.o) {
		t.Error("exactly the price that is left:", x)
	}
}

func TestOrderLate(t *testing.T) {
	// On day 300 all Parts are late; fees are for those with unpaid price or interest and no fee yet, which is the first one of the plan 4 alone.
	for _, r := range []struct {
		name            string
		day, fee, grace int64
		late            bool
	}{
		{"before Due plus grace", 104, 500, 5, false}, {"on Due plus grace", 105, 500, 5, false}, {"a day later", 106, 500, 5, true}, {"much later", 300, 500, 5, true},
		{"without grace", 101, 500, 0, true}, {"on Due", 100, 500, 0, false}, {"the greatest fee", 300, 100000, 60, true}, {"no fee", 300, 0, 5, true}, {"the first day", 0, 500, 0, false}, {"the last day", impl.MaxDay, 1, 60, true},
	} {
		want, fees := mixedOrder(), int64(0)
		if r.late {
			want.Plans[4].Parts[0].F, fees = r.fee, r.fee
		}
		x := late(mixedOrder(), r.day, r.fee, r.grace)
		checkOutcome(t, r.name, x, outcome{o: want, a: fees})
		if r.fee > 0 {
			checkOutcome(t, r.name+", a second time", late(x.o, r.day, r.fee, r.grace), outcome{o: want})
		}
	}
	several := mixedOrder()
	several.Plans[2].Parts[0].F, several.Plans[2].Parts[0].PaidF = 0, 0
	want := tidy(several)
	want.Plans[2].Parts[0].F, want.Plans[4].Parts[0].F = 500, 500
	checkOutcome(t, "in several plans", late(several, 106, 500, 5), outcome{o: want, a: 1000})
	checkOutcome(t, "without plans", late(newOrder(), 106, 500, 5), outcome{o: newOrder()})
}

func TestOrderLateRejects(t *testing.T) {
	const least, greatest = math.MinInt64, math.MaxInt64
	for _, o := range []impl.Order{newOrder(), mixedOrder()} { // also without plans
		for _, day := range []int64{-1, impl.MaxDay + 1, least, greatest} {
			checkCode(t, fmt.Sprint("day ", day), late(o, day, 500, 5), impl.OrAmount)
		}
		for _, fee := range []int64{-1, 100001, least, greatest} {
			checkCode(t, fmt.Sprint("fee ", fee), late(o, 200, fee, 5), impl.OrAmount)
		}
		for _, grace := range []int64{-1, 61, least, greatest} {
			checkCode(t, fmt.Sprint("grace ", grace), late(o, 200, 500, grace), impl.OrAmount)
		}
	}
}

func TestOrderSettle(t *testing.T) {
	// Unpaid are the fees 3 and 2, the price 475, and the interest 3 due on day 120, 8 due on day 100 and 7 due on day 130.
	for _, r := range []struct{ day, interest int64 }{
		{0, 0}, {99, 0}, {100, 8}, {119, 8}, {120, 11}, {129, 11}, {130, 18}, {131, 18}, {impl.MaxDay, 18},
	} {
		want := mixedOrder()
		for _, p := range partsIn(&want) {
			if p.Due > r.day {
				p.I = p.PaidI
			}
			p.PaidP, p.PaidI, p.PaidF = p.P, p.I, p.F
		}
		checkOutcome(t, fmt.Sprint("settle on day ", r.day), settled(mixedOrder(), r.day), outcome{o: want, a: 480 + r.interest, b: 18 - r.interest})
		checkOutcome(t, fmt.Sprint("again on day ", r.day), settled(want, r.day), outcome{o: want})
	}
	checkOutcome(t, "without plans", settled(newOrder(), 0), outcome{o: newOrder()})
	if x := settled(greatOrder(), impl.MaxDay); x.code != impl.OrOk || x.a != 8000000000+384*most || x.b != 0 {
		t.Error("the greatest order:", x.a, x.b, x.code)
	}
	if x := settled(greatOrder(), 0); x.code != impl.OrOk || x.a != 8000000000+192*most || x.b != 192*most {
		t.Error("the greatest order on day 0:", x.a, x.b, x.code)
	}
}

func TestOrderSettleRejects(t *testing.T) {
	for _, day := range []int64{-1, impl.MaxDay + 1, math.MinInt64, math.MaxInt64} {
		for _, o := range []impl.Order{newOrder(), mixedOrder()} {
			checkCode(t, fmt.Sprint("day ", day), settled(o, day), impl.OrAmount)
		}
	}
}

// randomOrder has up to MaxItems random plans; Upheld is what they do not contain of what was shipped.
func randomOrder(source *rand.Rand) impl.Order {
	o := newOrder()
	o.N, o.Rate = 1+source.Int63n(4), source.Int63n(10001)
	o.Items = nil
	for range 1 + source.Intn(3) {
		i := impl.Item{Qty: 20 + source.Int63n(20), Price: 1 + source.Int63n(9)}
		i.Shipped = source.Int63n(i.Qty + 1)
		i.Refunded = source.Int63n(i.Shipped + 1)
		o.Items = append(o.Items, i)
	}
	left := int64(0)
	for _, i := range o.Items {
		left += i.Price * (i.Shipped - i.Refunded)
	}
	for range source.Intn(impl.MaxItems + 1) {
		l := randomPlan(source)
		if n := impl.SumsOf(l).P; n <= left {
			o.Plans = append(o.Plans, impl.Plan{Parts: l})
			left -= n
		}
	}
	o.Upheld = left
	return o
}

// TestOrdersUnitByUnit compares what orders with several plans do with one list of all their Parts, changed unit by unit.
func TestOrdersUnitByUnit(t *testing.T) {
	source := rand.New(rand.NewSource(14))
	for range 4000 {
		o := randomOrder(source)
		if !impl.OrderOk(o) {
			t.Fatalf("the random order is not valid: %+v", o)
		}
		sums := impl.OrderSums(o)
		n := 1 + source.Int63n(unpaidSum(sums)+4)
		want := tidy(o)
		paid, left := payUnits(partsIn(&want), n)
		if x := paidIn(o, n); !x.same(outcome{o: want, part: paid, a: left}) {
			t.Fatalf("paying %d of %+v: %+v", n, o, x)
		}
		if sums.P > 0 {
			n := 1 + source.Int63n(sums.P)
			want := tidy(o)
			back := cutUnits(partsIn(&want), n)
			if left := backUnits(partsIn(&want), back); left != 0 {
				t.Fatalf("%d of %d is left in %+v", left, n, o)
			}
			want.Upheld += n
			if x := taken(o, n); !x.same(outcome{o: want, a: back}) {
				t.Fatalf("taking %d of %+v: %+v", n, o, x)
			}
		}
		checkRandomRefund(t, source, o)
		checkRandomSettle(t, source, o)
	}
}

func checkRandomRefund(t *testing.T, source *rand.Rand, o impl.Order) {
	t.Helper()
	item, sums := source.Int63n(int64(len(o.Items))), impl.OrderSums(o)
	i := o.Items[item]
	qty := source.Int63n(i.Shipped - i.Refunded + 2)
	value := i.Price * qty
	x := refunded(o, item, qty)
	switch {
	case qty < 1 || qty > i.Shipped-i.Refunded:
		checkCode(t, "a random quantity", x, impl.OrQty)
	case value > sums.P:
		checkCode(t, "a random value", x, impl.OrAmount)
	default:
		want := tidy(o)
		back := cutUnits(partsIn(&want), value)
		backUnits(partsIn(&want), back)
		want.Items[item].Refunded += qty
		checkOutcome(t, "a random refund", x, outcome{o: want, a: value, b: back})
		after := impl.OrderSums(x.o)
		// Promise 6: what is owed of the price, and what was paid of it and is kept, decrease by the value together.
		if sums.P-sums.PaidP-(after.P-after.PaidP)+x.b != value || sums.PaidP-after.PaidP != x.b || after.I != sums.I || after.F != sums.F {
			t.Errorf("a refund of %d of %+v: %+v", value, o, x)
		}
	}
}

func checkRandomSettle(t *testing.T, source *rand.Rand, o impl.Order) {
	t.Helper()
	day, before := 88+source.Int63n(26), impl.OrderSums(o)
	x := settled(o, day)
	after, cost := impl.OrderSums(x.o), int64(0)
	for _, p := range o.Plans {
		cost += impl.PayoffOf(p.Parts, day)
	}
	if x.code != impl.OrOk || x.a != cost || unpaidSum(after) != 0 || x.a+x.b != unpaidSum(before) || before.I-after.I != x.b || !impl.OrderOk(x.o) {
		t.Errorf("settling %+v on day %d: %+v", o, day, x)
	}
}

// TestOrderLife performs random operations one after the other and checks promise 6 after each.
func TestOrderLife(t *testing.T) {
	source := rand.New(rand.NewSource(15))
	for range 400 {
		o := newOrder()
		o.Rate = source.Int63n(10001)
		o.Items = []impl.Item{{Qty: 4, Price: 1000}, {Qty: 3, Price: 77}, {Qty: 5, Price: 1}}
		day := int64(10)
		for range 30 {
			day += source.Int63n(20)
			next := randomStep(source, o, day)
			if next.code != impl.OrOk {
				checkCode(t, "a rejected step", next, next.code)
				continue
			}
			checkLife(t, o, next.o)
			o = next.o
		}
		x := settled(o, day)
		if x.code != impl.OrOk || unpaidSum(impl.OrderSums(x.o)) != 0 || impl.OpenOf(x.o) != impl.ValueOf(x.o)-impl.ShippedOf(x.o) {
			t.Fatalf("a settled order owes something: %+v", x)
		}
	}
}

func randomStep(source *rand.Rand, o impl.Order, day int64) outcome {
	switch source.Intn(6) {
	case 0, 1:
		return shipped(o, source.Int63n(3), source.Int63n(3), day)
	case 2:
		return paidIn(o, source.Int63n(1500))
	case 3:
		return refunded(o, source.Int63n(3), source.Int63n(3))
	case 4:
		return taken(o, source.Int63n(900))
	}
	return late(o, day, 500, 5)
}

func checkLife(t *testing.T, before, after impl.Order) {
	t.Helper()
	price := int64(0)
	for _, p := range after.Plans {
		price += impl.SumsOf(p.Parts).P
	}
	if !impl.OrderOk(after) || price != impl.ShippedOf(after)-impl.RefundedOf(after)-after.Upheld {
		t.Fatalf("from %+v to %+v: what is shipped is not in the plans", before, after)
	}
	if impl.ValueOf(after) != impl.ValueOf(before) || len(after.Plans) < len(before.Plans) {
		t.Fatalf("from %+v to %+v", before, after)
	}
}

// spareOrder returns an order with spare capacity behind each of its lists, and all these lists at full length.
func spareOrder() (impl.Order, []impl.Item, []impl.Plan, [][]impl.Part) {
	o := mixedOrder()
	item, part := impl.Item{Qty: -5, Price: -6}, impl.Part{Due: -7, P: -8}
	items := append(o.Items, item, item)
	o.Items = items[:2]
	var parts [][]impl.Part
	for i, p := range o.Plans {
		memory := append(p.Parts, part, part)
		parts = append(parts, memory)
		o.Plans[i].Parts = memory[:len(p.Parts)]
	}
	plans := append(o.Plans, impl.Plan{Parts: []impl.Part{part}}, impl.Plan{})
	o.Plans = plans[:5]
	return o, items, plans, parts
}

// ordersFrom returns the orders that all functions return for an order.
func ordersFrom(o impl.Order) []impl.Order {
	return []impl.Order{
		shipped(o, 0, 2, 60).o, paidIn(o, 400).o, paidIn(o, most).o, taken(o, 10).o, taken(o, 800).o, refunded(o, 0, 1).o, refunded(o, 1, 2).o,
		late(o, 200, 500, 5).o, late(o, 0, 500, 5).o, settled(o, 0).o, settled(o, 200).o,
	}
}

// spoil overwrites everything that an order refers to.
func spoil(o impl.Order) {
	plans := o.Plans[:cap(o.Plans)]
	for i := range plans {
		spoilParts(plans[i].Parts)
		plans[i].Parts = []impl.Part{{Due: -2}}
	}
	items := o.Items[:cap(o.Items)]
	for i := range items {
		items[i] = impl.Item{Qty: -3}
	}
}

func spoilParts(l []impl.Part) {
	l = l[:cap(l)]
	for i := range l {
		l[i] = impl.Part{Due: -1}
	}
}

func TestOrdersLeaveTheirArguments(t *testing.T) {
	o, items, plans, parts := spareOrder()
	_, itemsBefore, plansBefore, partsBefore := spareOrder()
	check := func(name string) {
		t.Helper()
		if !slices.Equal(items, itemsBefore) || !reflect.DeepEqual(plans, plansBefore) || !reflect.DeepEqual(parts, partsBefore) {
			t.Fatal(name, items, plans, parts)
		}
	}
	impl.OrderOk(o)
	impl.ValueOf(o)
	impl.ShippedOf(o)
	impl.RefundedOf(o)
	impl.OrderSums(o)
	impl.OpenOf(o)
	first, second, expected := ordersFrom(o), ordersFrom(o), ordersFrom(mixedOrder())
	for _, bad := range invalidOrders() {
		ordersFrom(bad)
	}
	shipped(o, 9, 1, 1)
	refunded(o, 0, 99)
	taken(o, 9999)
	check("an argument changed:")
	for i := range first {
		if first[i].Id != o.Id || !sameOrder(first[i], second[i]) || !sameOrder(first[i], expected[i]) {
			t.Fatal("equal arguments:", i, first[i], second[i])
		}
		spoil(first[i])
		check("a result shares memory with an argument:")
		if !slices.EqualFunc(second, expected, sameOrder) {
			t.Fatal("two results share memory:", i)
		}
	}
	spoil(o)
	if !slices.EqualFunc(second, expected, sameOrder) {
		t.Fatal("a result shares memory with its order")
	}
}

// TestListsOfOrdersAreApart overwrites one list of a result after the other and looks at those that follow.
func TestListsOfOrdersAreApart(t *testing.T) {
	expected := ordersFrom(mixedOrder())
	for n, o := range ordersFrom(mixedOrder()) {
		for i := range o.Plans {
			spoilParts(o.Plans[i].Parts)
			for j := i + 1; j < len(o.Plans); j++ {
				if !slices.Equal(o.Plans[j].Parts, expected[n].Plans[j].Parts) {
					t.Fatalf("the plans %d and %d of the result %d share memory", i, j, n)
				}
			}
		}
	}
	shared := newOrder()
	plan := []impl.Part{{Due: 50, P: 1000}}
	shared.Items[0].Shipped = 2
	shared.Plans = []impl.Plan{{Parts: plan}, {Parts: plan}} // one memory for both plans of an argument
	x := paidIn(shared, 1500)
	if x.code != impl.OrOk || x.a != 0 || x.o.Plans[0].Parts[0].PaidP != 1000 || x.o.Plans[1].Parts[0].PaidP != 500 || plan[0].PaidP != 0 {
		t.Error("plans of one memory:", x, plan)
	}
}
