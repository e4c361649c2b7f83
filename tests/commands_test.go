package tests

import (
	"math"
	"math/big"
	"math/rand"
	"reflect"
	"regexp"
	"slices"
	"strings"
	"testing"

	"loop.example/g00714/impl"
)

type limits struct{ low, high int64 }

// kindRow is a row of the table of the document; the limits are those of the fields A, B, .. in order.
type kindRow struct {
	kind   int64
	name   string
	fields []limits
}

func kindRows() []kindRow {
	id, currency, amount := limits{1, 999}, limits{0, 5}, limits{1, most}
	ratio, share := limits{1, 1000000}, limits{0, 10000}
	return []kindRow{
		{impl.CmDay, "day", []limits{{0, 100000}}},
		{impl.CmRate, "rate", []limits{currency, currency, ratio, ratio}},
		{impl.CmConsumer, "consumer", []limits{id, {0, most}}},
		{impl.CmMerchant, "merchant", []limits{id, share, share}},
		{impl.CmOrder, "order", []limits{id, id, id, currency, {1, 24}, {0, 10000}}},
		{impl.CmShip, "ship", []limits{id, {0, 7}, {1, 1000}}},
		{impl.CmPay, "pay", []limits{id, currency, amount}},
		{impl.CmRefund, "refund", []limits{id, {0, 7}, {1, 1000}}},
		{impl.CmDispute, "dispute", []limits{id, amount}},
		{impl.CmRule, "rule", []limits{id, {0, 1}}},
		{impl.CmPayout, "payout", []limits{id, currency}},
		{impl.CmRelease, "release", []limits{id, currency, amount}},
		{impl.CmPayoff, "payoff", []limits{id}},
	}
}

func numberAt(c *impl.Cmd, index int) *int64 {
	return []*int64{&c.A, &c.B, &c.C, &c.D, &c.E, &c.F}[index]
}

// leastCmd has the least numbers that its Kind allows.
func leastCmd(row kindRow) impl.Cmd {
	c := impl.Cmd{Kind: row.kind, Key: "k1"}
	for i, f := range row.fields {
		*numberAt(&c, i) = f.low
	}
	if row.kind == impl.CmRate {
		c.B = 1
	}
	if row.kind == impl.CmOrder {
		c.Items = []impl.Item{{Qty: 3, Price: 40}, {Qty: 1, Price: 7}}
	}
	return c
}

func sameCmd(a, b impl.Cmd) bool {
	if !slices.Equal(a.Items, b.Items) {
		return false
	}
	a.Items, b.Items = nil, nil
	return reflect.DeepEqual(a, b)
}

func checkValidCmd(t *testing.T, c impl.Cmd, text string) {
	t.Helper()
	if !impl.CmdOk(c) {
		t.Errorf("CmdOk(%v) returns false", c)
	}
	if got := impl.CmdText(c); got != text {
		t.Errorf("CmdText(%v) = %q, not %q", c, got, text)
	}
	if got, ok := impl.ReadCmd(text); !ok || !sameCmd(got, c) {
		t.Errorf("ReadCmd(%q) = %v, %v, not %v", text, got, ok, c)
	}
}

func checkInvalidCmd(t *testing.T, c impl.Cmd) {
	t.Helper()
	if impl.CmdOk(c) {
		t.Errorf("CmdOk(%v) returns true", c)
	}
	if got := impl.CmdText(c); got != "" {
		t.Errorf("CmdText(%v) = %q", c, got)
	}
}

func checkNoCmd(t *testing.T, text string) {
	t.Helper()
	if got, ok := impl.ReadCmd(text); ok || !sameCmd(got, impl.Cmd{}) {
		t.Errorf("ReadCmd(%q) = %v, %v", text, got, ok)
	}
}

func TestCommandKinds(t *testing.T) {
	for i, row := range kindRows() {
		if row.kind != int64(i+1) {
			t.Errorf("the Kind of %s is %d", row.name, row.kind)
		}
	}
}

func TestCommandTexts(t *testing.T) {
	for _, r := range []struct {
		c    impl.Cmd
		text string
	}{
		{impl.Cmd{Kind: 1, Key: "a"}, "a day 0"},
		{impl.Cmd{Kind: 1, Key: "0", A: 100000}, "0 day 100000"},
		{impl.Cmd{Kind: 2, Key: "day", B: 5, C: 1, D: 1000000}, "day rate 0 5 1 1000000"},
		{impl.Cmd{Kind: 2, Key: "r2", A: 3, B: 2, C: 150, D: 1}, "r2 rate 3 2 150 1"},
		{impl.Cmd{Kind: 3, Key: "abcdefghijkl", A: 999}, "abcdefghijkl consumer 999 0"},
		{impl.Cmd{Kind: 3, Key: "x", A: 1, B: most}, "x consumer 1 1000000000000"},
		{impl.Cmd{Kind: 4, Key: "m", A: 30, C: 10000}, "m merchant 30 0 10000"},
		{impl.Cmd{Kind: 4, Key: "m", A: 30, B: 250}, "m merchant 30 250 0"},
		{impl.Cmd{Kind: 5, Key: "o", A: 1, B: 7, C: 3, D: 1, E: 4, F: 999, Items: []impl.Item{{Qty: 2, Price: 500}, {Qty: 1, Price: 7}}}, "o order 1 7 3 1 4 999 2x500 1x7"},
		{impl.Cmd{Kind: 5, Key: "o", A: 10, B: 20, C: 30, E: 24, Items: []impl.Item{{Qty: 1000, Price: 1000000}}}, "o order 10 20 30 0 24 0 1000x1000000"},
		{impl.Cmd{Kind: 5, Key: "o", A: 1, B: 1, C: 1, D: 5, E: 1, F: 10000, Items: slices.Repeat([]impl.Item{{Qty: 1, Price: 1}}, 8)}, "o order 1 1 1 5 1 10000 1x1 1x1 1x1 1x1 1x1 1x1 1x1 1x1"},
		{impl.Cmd{Kind: 6, Key: "s", A: 12, B: 7, C: 1000}, "s ship 12 7 1000"},
		{impl.Cmd{Kind: 7, Key: "p", A: 5, B: 2, C: most}, "p pay 5 2 1000000000000"},
		{impl.Cmd{Kind: 8, Key: "b", A: 12, C: 1}, "b refund 12 0 1"},
		{impl.Cmd{Kind: 9, Key: "d", A: 4, B: 4000}, "d dispute 4 4000"},
		{impl.Cmd{Kind: 10, Key: "u", A: 4}, "u rule 4 0"},
		{impl.Cmd{Kind: 10, Key: "u", A: 4, B: 1}, "u rule 4 1"},
		{impl.Cmd{Kind: 11, Key: "x", A: 3, B: 4}, "x payout 3 4"},
		{impl.Cmd{Kind: 12, Key: "y", A: 3, B: 5, C: 90}, "y release 3 5 90"},
		{impl.Cmd{Kind: 13, Key: "z9", A: 999}, "z9 payoff 999"},
	} {
		checkValidCmd(t, r.c, r.text)
	}
}

func TestCmdOkKind(t *testing.T) {
	for _, row := range kindRows() {
		for _, kind := range []int64{0, 14, 15, -1, -13, 100, 256 + row.kind, 1<<32 + row.kind, math.MinInt64, math.MaxInt64} {
			c := leastCmd(row)
			c.Kind = kind
			checkInvalidCmd(t, c)
			c.Items = nil
			checkInvalidCmd(t, c)
		}
	}
	for _, kind := range []int64{0, 14, -1, math.MinInt64, math.MaxInt64} {
		checkInvalidCmd(t, impl.Cmd{Kind: kind, Key: "a"})
	}
	checkInvalidCmd(t, impl.Cmd{})
}

func TestCmdOkKey(t *testing.T) {
	for _, row := range kindRows() {
		c := leastCmd(row)
		rest := strings.TrimPrefix(impl.CmdText(c), c.Key)
		for _, key := range []string{"a", "z", "0", "9", "az09", "000000000000", "zzzzzzzzzzzz", "abcdefghijk", "abcdefghijkl", row.name, "1x1"} {
			c.Key = key
			checkValidCmd(t, c, key+rest)
		}
		for _, key := range []string{"", "abcdefghijklm", strings.Repeat("a", 100), "A", "Z", "aB", "abC1", " ", "a b", " a", "a ", "a\n", "\ta", "a\x00", "é", "aé", "ａ", "٣", "a\xff", "\x80", "a-b", "_", "`", "{", "/", ":", "a.", "+1", "-1"} {
			c.Key = key
			checkInvalidCmd(t, c)
			checkNoCmd(t, key+rest)
		}
	}
	// The length counts bytes: one of these is too long for its characters, the other one is not.
	checkInvalidCmd(t, impl.Cmd{Kind: impl.CmDay, Key: "éééééé"})
	checkInvalidCmd(t, impl.Cmd{Kind: impl.CmDay, Key: "ééééééé"})
}

func TestCmdOkEachByteOfKey(t *testing.T) {
	const accepted = "abcdefghijklmnopqrstuvwxyz0123456789"
	for b := range 256 {
		want := strings.IndexByte(accepted, byte(b)) >= 0
		for position := range 3 {
			key := []byte("k7k")
			key[position] = byte(b)
			c := impl.Cmd{Kind: impl.CmPayoff, Key: string(key), A: 5}
			_, ok := impl.ReadCmd(string(key) + " payoff 5")
			if impl.CmdOk(c) != want || ok != want {
				t.Errorf("the key %q: CmdOk returns %v and ReadCmd %v", key, impl.CmdOk(c), ok)
			}
		}
	}
}

func TestCmdOkNumbers(t *testing.T) {
	for _, row := range kindRows() {
		for i, f := range row.fields {
			for _, n := range []int64{f.low, f.high} {
				c := leastCmd(row)
				*numberAt(&c, i) = n
				if c.Kind == impl.CmRate && c.A == c.B {
					*numberAt(&c, 1-i) = 3
				}
				checkValidCmd(t, c, impl.CmdText(c))
			}
			for _, n := range []int64{f.low - 1, f.high + 1, -1, math.MinInt64, math.MinInt64 + 1, math.MaxInt64, 1<<32 + f.low} {
				if n >= f.low && n <= f.high {
					continue
				}
				c := leastCmd(row)
				before, ok := impl.ReadCmd(impl.CmdText(c))
				if !ok || !sameCmd(before, c) {
					t.Fatalf("the least %s is not recovered", row.name)
				}
				*numberAt(&c, i) = n
				checkInvalidCmd(t, c)
				checkNoCmd(t, textOf(c, row))
			}
		}
	}
}

// textOf writes a command as CmdText does, also if it is not valid.
func textOf(c impl.Cmd, row kindRow) string {
	words := []string{c.Key, row.name}
	for i := range row.fields {
		words = append(words, big.NewInt(*numberAt(&c, i)).String())
	}
	for _, i := range c.Items {
		words = append(words, big.NewInt(i.Qty).String()+"x"+big.NewInt(i.Price).String())
	}
	return strings.Join(words, " ")
}

func TestCmdOkOtherFields(t *testing.T) {
	for _, row := range kindRows() {
		for i := len(row.fields); i < 6; i++ {
			for _, n := range []int64{1, -1, 2, 1 << 32, math.MinInt64, math.MaxInt64} {
				c := leastCmd(row)
				*numberAt(&c, i) = n
				checkInvalidCmd(t, c)
			}
		}
		if len(row.fields) < 5 {
			c := leastCmd(row)
			c.E, c.F = 1, -1
			checkInvalidCmd(t, c)
		}
		c := leastCmd(row)
		if row.kind == impl.CmOrder {
			continue
		}
		for _, items := range [][]impl.Item{{{Qty: 1, Price: 1}}, {{}}, make([]impl.Item, 9)} {
			c.Items = items
			checkInvalidCmd(t, c)
		}
		c.Items = []impl.Item{}
		checkValidCmd(t, c, impl.CmdText(leastCmd(row)))
		checkNoCmd(t, impl.CmdText(c)+" 1x1")
	}
}

func TestCmdOkRateCurrencies(t *testing.T) {
	for a := range int64(6) {
		for b := range int64(6) {
			c := impl.Cmd{Kind: impl.CmRate, Key: "r", A: a, B: b, C: 9, D: 10}
			text := textOf(c, kindRows()[1])
			if a == b {
				checkInvalidCmd(t, c)
				checkNoCmd(t, text)
			} else {
				checkValidCmd(t, c, text)
			}
		}
	}
	// The other pairs of numbers may be equal.
	checkValidCmd(t, impl.Cmd{Kind: impl.CmRate, Key: "r", B: 1, C: 5, D: 5}, "r rate 0 1 5 5")
	checkValidCmd(t, impl.Cmd{Kind: impl.CmOrder, Key: "o", A: 5, B: 5, C: 5, D: 5, E: 5, F: 5, Items: []impl.Item{{Qty: 5, Price: 5}}}, "o order 5 5 5 5 5 5 5x5")
}

func TestCmdOkItems(t *testing.T) {
	row := kindRows()[4]
	for count := range 12 {
		c := leastCmd(row)
		c.Items = slices.Repeat([]impl.Item{{Qty: 2, Price: 30}}, count)
		text := "k1 order 1 1 1 0 1 0" + strings.Repeat(" 2x30", count)
		if count >= 1 && count <= impl.MaxItems {
			checkValidCmd(t, c, text)
		} else {
			checkInvalidCmd(t, c)
			checkNoCmd(t, text)
		}
	}
	for _, r := range []struct {
		item impl.Item
		want bool
	}{
		{impl.Item{Qty: 1, Price: 1}, true}, {impl.Item{Qty: 1000, Price: 1}, true}, {impl.Item{Qty: 1, Price: 1000000}, true}, {impl.Item{Qty: 1000, Price: 1000000}, true},
		{impl.Item{}, false}, {impl.Item{Price: 1}, false}, {impl.Item{Qty: 1}, false}, {impl.Item{Qty: 1001, Price: 1}, false}, {impl.Item{Qty: 1, Price: 1000001}, false},
		{impl.Item{Qty: -1, Price: 1}, false}, {impl.Item{Qty: 1, Price: -1}, false}, {impl.Item{Qty: math.MinInt64, Price: 1}, false}, {impl.Item{Qty: 1, Price: math.MaxInt64}, false},
	} {
		for position := range 3 {
			c := leastCmd(row)
			c.Items = slices.Insert(c.Items, position, r.item)
			if r.want {
				checkValidCmd(t, c, textOf(c, row))
			} else {
				checkInvalidCmd(t, c)
				checkNoCmd(t, textOf(c, row))
			}
		}
	}
}

func TestCmdOkShippedItems(t *testing.T) {
	for _, item := range []impl.Item{
		{Qty: 5, Price: 7, Shipped: 1}, {Qty: 5, Price: 7, Shipped: 5}, {Qty: 5, Price: 7, Shipped: 1, Refunded: 1}, {Qty: 5, Price: 7, Shipped: 5, Refunded: 2},
		{Qty: 5, Price: 7, Refunded: 1}, {Qty: 5, Price: 7, Refunded: -1}, {Qty: 5, Price: 7, Shipped: -1}, {Qty: 5, Price: 7, Shipped: -1, Refunded: -1}, {Qty: 5, Price: 7, Shipped: 6},
		{Qty: 5, Price: 7, Shipped: math.MinInt64}, {Qty: 5, Price: 7, Refunded: math.MinInt64}, {Qty: 5, Price: 7, Shipped: math.MaxInt64, Refunded: math.MaxInt64},
	} {
		for position := range 3 {
			c := leastCmd(kindRows()[4])
			c.Items = slices.Insert(c.Items, position, item)
			checkInvalidCmd(t, c)
		}
	}
}

func TestReadCmdWords(t *testing.T) {
	rows := kindRows()
	for _, row := range rows {
		text := impl.CmdText(leastCmd(row))
		words := strings.Split(text, " ")
		for i := range len(words) + 1 {
			// A further space, number or item, wherever it is. At one place an order with one more item is valid.
			checkNoCmd(t, strings.Join(slices.Insert(slices.Clone(words), i, ""), " "))
			checkNoCmd(t, strings.Join(slices.Insert(slices.Clone(words), i, "-0"), " "))
			if row.kind != impl.CmOrder || i < 8 {
				checkNoCmd(t, strings.Join(slices.Insert(slices.Clone(words), i, "1x1"), " "))
			}
			checkNoCmd(t, strings.Join(words[:min(i, 2+len(row.fields))], " ")+" ")
		}
		for i := range 2 + len(row.fields) {
			checkNoCmd(t, strings.Join(words[:i], " "))
			checkNoCmd(t, strings.Join(slices.Delete(slices.Clone(words), i, i+1), " "))
		}
		for _, end := range []string{" ", "  ", " 0", " 1", " 1000000000000000000000", "\n", "\t", "\x00", "x", " x", " 1x", " x1"} {
			checkNoCmd(t, text+end)
		}
		for _, start := range []string{" ", "\n", "\ufeff"} {
			checkNoCmd(t, start+text)
		}
		for _, space := range []string{"  ", "\t", "\u00a0", ",", "\n", ""} {
			checkNoCmd(t, strings.ReplaceAll(text, " ", space))
			checkNoCmd(t, strings.Replace(text, " ", space, 1))
		}
	}
	for _, text := range []string{"", " ", "  ", "a", "a ", " a", "day", "a day", "day 5", "day 5 a", "5", "5 5 5", "a  5", "a 1 5", "x", "1x1", "a order", "a order 1x1", "a 1x1"} {
		checkNoCmd(t, text)
	}
}

func TestReadCmdNames(t *testing.T) {
	rows := kindRows()
	for _, row := range rows {
		rest := strings.TrimPrefix(impl.CmdText(leastCmd(row)), "k1 "+row.name)
		for _, name := range []string{"", strings.ToUpper(row.name), strings.ToUpper(row.name[:1]) + row.name[1:], row.name[:len(row.name)-1] + strings.ToUpper(row.name[len(row.name)-1:]), row.name[1:], row.name[:len(row.name)-1], row.name + "s", "x" + row.name, "fly", "0", "1", "kind"} {
			if !slices.ContainsFunc(rows, func(r kindRow) bool { return r.name == name }) {
				checkNoCmd(t, "k1 "+name+rest)
			}
		}
		for _, other := range rows {
			got, ok := impl.ReadCmd("k1 " + other.name + rest)
			if ok && (got.Kind != other.kind || len(other.fields) != len(row.fields)) {
				t.Errorf("ReadCmd(%q) = %v", "k1 "+other.name+rest, got)
			}
		}
	}
}

func TestReadCmdNumbers(t *testing.T) {
	for _, row := range kindRows() {
		words := strings.Split(impl.CmdText(leastCmd(row)), " ")
		for i := range row.fields {
			n := words[2+i]
			for _, other := range []string{"", "0" + n, "00" + n, "+" + n, "-" + n, "--" + n, n + "-", n + ".", n + ".0", n + "e0", "0x" + n, n + "x", n + "x1", "x" + n, n + "_0", n + ",0", "a", "n" + n, "٣", "１",
				"18446744073709551617", "18446744073709551616", "9223372036854775808", "9223372036854775807", "-9223372036854775808", "10000000000000000", "0000000000000000" + n, strings.Repeat("0", 40) + n, strings.Repeat("9", 400)} {
				changed := slices.Clone(words)
				changed[2+i] = other
				checkNoCmd(t, strings.Join(changed, " "))
			}
		}
	}
	// What exceeds 2^64 by a number in its limits is not that number.
	for _, n := range []int64{0, 1, 5, 999} {
		over := new(big.Int).Add(new(big.Int).Lsh(big.NewInt(1), 64), big.NewInt(n)).String()
		checkNoCmd(t, "a day "+over)
		checkNoCmd(t, "a payoff "+over)
		checkNoCmd(t, "a order 1 1 1 0 1 0 "+over+"x1")
		checkNoCmd(t, "a order 1 1 1 0 1 0 1x"+over)
	}
}

func TestReadCmdItems(t *testing.T) {
	const start = "o order 1 1 1 0 1 0 "
	for _, item := range []string{
		"", "x", "1", "0", "1x", "x1", "1xx1", "1x1x1", "x1x1", "1x1x", "xx", "0x1", "1x0", "00x1", "01x1", "1x01", "1x00", "+1x1", "1x+1", "-1x1", "1x-1", "1 x1", "1x 1", "1 x 1", "1X1", "1*1", "1×1",
		"1001x1", "1x1000001", "10000x1", "1x10000000", "9223372036854775808x1", "1x18446744073709551617", "1x1 ", " 1x1", "1x1,1x1", "1x1.0", "ax1", "1xa", "1x1a", "b1x1", "0000000000000000001x1", "1x0000000000000000001",
	} {
		checkNoCmd(t, start+item)
		checkNoCmd(t, start+item+" 2x3")
		checkNoCmd(t, start+"2x3 "+item)
		checkNoCmd(t, start+"2x3 "+item+" 4x5")
	}
	if c, ok := impl.ReadCmd(start + "2x3 4x5"); !ok || !slices.Equal(c.Items, []impl.Item{{Qty: 2, Price: 3}, {Qty: 4, Price: 5}}) {
		t.Errorf("ReadCmd of two items = %v, %v", c, ok)
	}
}

func randomCmd(source *rand.Rand) impl.Cmd {
	rows := kindRows()
	row := rows[source.Intn(len(rows))]
	const letters = "abcdefghijklmnopqrstuvwxyz0123456789"
	c := impl.Cmd{Kind: row.kind}
	for range 1 + source.Intn(12) {
		c.Key += string(letters[source.Intn(len(letters))])
	}
	for i, f := range row.fields {
		*numberAt(&c, i) = f.low + randomUpTo(source, f.high-f.low)
	}
	if c.Kind == impl.CmRate && c.A == c.B {
		c.B = (c.A + 1) % 6
	}
	if c.Kind == impl.CmOrder {
		for range 1 + source.Intn(8) {
			c.Items = append(c.Items, impl.Item{Qty: 1 + randomUpTo(source, 999), Price: 1 + randomUpTo(source, 999999)})
		}
	}
	return c
}

// TestCommandRecoveredFromText also compares the texts: commands that differ have different ones.
func TestCommandRecoveredFromText(t *testing.T) {
	source := rand.New(rand.NewSource(7))
	byText := map[string]impl.Cmd{}
	for range 20000 {
		c := randomCmd(source)
		text := textOf(c, kindRows()[c.Kind-1])
		checkValidCmd(t, c, text)
		if other, found := byText[text]; found && !sameCmd(other, c) {
			t.Errorf("%v and %v have the text %q", other, c, text)
		}
		byText[text] = c
	}
}

var (
	cmdForm  = regexp.MustCompile(`^([a-z0-9]{1,12}) ([a-z]+)((?: (?:0|[1-9][0-9]{0,15}))+)((?: [1-9][0-9]{0,15}x[1-9][0-9]{0,15})*)$`)
	itemForm = regexp.MustCompile(`([0-9]+)x([0-9]+)`)
)

func numberOf(text string) int64 {
	n, _ := new(big.Int).SetString(text, 10)
	return n.Int64()
}

// commandOf reads a command by regular expressions and the table of the document.
func commandOf(text string) (impl.Cmd, bool) {
	found := cmdForm.FindStringSubmatch(text)
	if found == nil {
		return impl.Cmd{}, false
	}
	for _, row := range kindRows() {
		numbers := strings.Fields(found[3])
		if row.name != found[2] || len(numbers) != len(row.fields) {
			continue
		}
		c := impl.Cmd{Kind: row.kind, Key: found[1]}
		for i, f := range row.fields {
			n := numberOf(numbers[i])
			if n < f.low || n > f.high {
				return impl.Cmd{}, false
			}
			*numberAt(&c, i) = n
		}
		for _, item := range itemForm.FindAllStringSubmatch(found[4], -1) {
			c.Items = append(c.Items, impl.Item{Qty: numberOf(item[1]), Price: numberOf(item[2])})
		}
		return c, itemsFit(c) && (c.Kind != impl.CmRate || c.A != c.B)
	}
	return impl.Cmd{}, false
}

func itemsFit(c impl.Cmd) bool {
	for _, i := range c.Items {
		if i.Qty > 1000 || i.Price > 1000000 {
			return false
		}
	}
	if c.Kind == impl.CmOrder {
		return len(c.Items) >= 1 && len(c.Items) <= 8
	}
	return len(c.Items) == 0
}

func checkRead(t *testing.T, text string) bool {
	t.Helper()
	want, wantOk := commandOf(text)
	got, ok := impl.ReadCmd(text)
	if !wantOk {
		want = impl.Cmd{}
	}
	if ok != wantOk || !sameCmd(got, want) {
		t.Errorf("ReadCmd(%q) = %v, %v, not %v, %v", text, got, ok, want, wantOk)
	}
	if ok && impl.CmdText(got) != text {
		t.Errorf("ReadCmd(%q) is written as %q", text, impl.CmdText(got))
	}
	return ok
}

// nearText changes a text at one place, or exchanges two of its words.
func nearText(source *rand.Rand, text string) string {
	const bytes = "  0123456789xxaz-+AX.\t\xc3\x00"
	b := string(bytes[source.Intn(len(bytes))])
	i := source.Intn(len(text))
	switch source.Intn(5) {
	case 0:
		return text[:i] + b + text[i:]
	case 1:
		return text[:i] + text[i+1:]
	case 2:
		return text[:i] + b + text[i+1:]
	case 3:
		return text[:i]
	}
	words := strings.Split(text, " ")
	j, k := source.Intn(len(words)), source.Intn(len(words))
	words[j], words[k] = words[k], words[j]
	return strings.Join(words, " ")
}

func TestReadCmdAcceptsTextsAlone(t *testing.T) {
	source := rand.New(rand.NewSource(71))
	accepted, rejected := 0, 0
	for range 60000 {
		text := impl.CmdText(randomCmd(source))
		for range 1 + source.Intn(2) {
			if text != "" {
				text = nearText(source, text)
			}
		}
		if checkRead(t, text) {
			accepted++
		} else {
			rejected++
		}
	}
	if accepted < 1000 || rejected < 1000 {
		t.Errorf("%d texts were accepted and %d rejected", accepted, rejected)
	}
}

func TestReadCmdLongTexts(t *testing.T) {
	for _, text := range []string{strings.Repeat(" ", 100000), strings.Repeat("a", 100000), strings.Repeat("1x1 ", 20000), "a day " + strings.Repeat("1", 100000), "o order 1 1 1 0 1 0" + strings.Repeat(" 1x1", 20000), strings.Repeat("a day 5 ", 10000)} {
		checkNoCmd(t, text)
	}
}

func TestCommandsLeaveTheirArguments(t *testing.T) {
	for _, row := range kindRows() {
		for _, key := range []string{"k1", "K"} {
			c := leastCmd(row)
			c.Key = key
			array := slices.Grow(slices.Clone(c.Items), 5)
			array = append(array, make([]impl.Item, cap(array)-len(array))...)
			for i := len(c.Items); i < len(array); i++ {
				array[i] = impl.Item{Qty: -7, Price: -8, Shipped: -9, Refunded: int64(i)}
			}
			before := slices.Clone(array)
			c.Items = array[:len(c.Items)]
			copied := c
			impl.CmdOk(c)
			impl.CmdText(c)
			if !reflect.DeepEqual(c, copied) || !slices.Equal(array, before) {
				t.Errorf("the command %v was changed to %v", before, array)
			}
		}
	}
}

func TestReadCmdResultsAreApart(t *testing.T) {
	const text = "o order 1 7 3 1 4 999 2x500 1x7"
	first, _ := impl.ReadCmd(text)
	second, _ := impl.ReadCmd(text)
	for i := range first.Items {
		first.Items[i] = impl.Item{Qty: -1}
	}
	first.Items = append(first.Items, impl.Item{Qty: -2})
	first.Key = "other"
	if impl.CmdText(second) != text {
		t.Errorf("a change of the first result changes the second one to %v", second)
	}
	third, ok := impl.ReadCmd(text)
	if !ok || !sameCmd(third, second) {
		t.Errorf("a change of the first result changes the third one to %v", third)
	}
}

func TestReadCmdAgain(t *testing.T) {
	source := rand.New(rand.NewSource(72))
	for range 500 {
		text := nearText(source, impl.CmdText(randomCmd(source)))
		a, aOk := impl.ReadCmd(text)
		impl.ReadCmd("o order 1 7 3 1 4 999 2x500 1x7")
		b, bOk := impl.ReadCmd(text)
		if aOk != bOk || !sameCmd(a, b) {
			t.Errorf("ReadCmd(%q) returns %v, then %v", text, a, b)
		}
	}
}
