package tests

import (
	"fmt"
	"math/rand"
	"regexp"
	"slices"
	"strings"
	"testing"

	"loop.example/g00714/impl"
)

// scriptOf ends each line by a line feed.
func scriptOf(lines ...string) string {
	text := ""
	for _, line := range lines {
		text += line + "\n"
	}
	return text
}

// checkScript expects one line of output for each of the wanted ones.
func checkScript(t *testing.T, name string, lines []string, want ...string) {
	t.Helper()
	if got := impl.RunScript(scriptOf(lines...)); got != scriptOf(want...) {
		t.Errorf("%s: %q, not %q", name, got, scriptOf(want...))
	}
}

// checkLast expects an output of the last line alone.
func checkLast(t *testing.T, setup []string, line, want string) {
	t.Helper()
	before := impl.RunScript(scriptOf(setup...))
	got, found := strings.CutPrefix(impl.RunScript(scriptOf(append(slices.Clone(setup), line)...)), before)
	if !found || got != want+"\n" {
		t.Errorf("%q after %q: %q, not %q", line, setup, got, want)
	}
}

func TestScriptExamples(t *testing.T) {
	for _, r := range [][2]string{
		{"day 0\nday 5\nagain s1 day 9\nagain s0 day 9\nday  7 \nagain s2 day 10\n", "no 2\nok 0\nok 0\nok 0\nno 2\nok 0\n"},
		{"exposure 7\norder 1\ncash EUR\nowed 7 JPY\nheld 3 KWD\n", "none\nnone\n0.00\n0\n0.000\n"},
		{"", ""},
		{"\n", ""},
		{"x\n", "what\n"},
	} {
		if got := impl.RunScript(r[0]); got != r[1] {
			t.Errorf("%q: %q, not %q", r[0], got, r[1])
		}
	}
	if impl.MaxScript != 40 || impl.MaxText != 4000 {
		t.Error("the constants")
	}
}

// TestScriptCommands has each Kind accepted, and each Code that a script can reach by a few lines.
func TestScriptCommands(t *testing.T) {
	for _, r := range []struct {
		setup      []string
		line, want string
	}{
		{nil, "day 5", "ok 0"},
		{shipped2(), "day 40", "ok 1"},
		{shipped2(), "day 0", "no 2"},
		{nil, "day 100000", "ok 0"},
		{nil, "rate 1 0 9 10", "ok 0"},
		{numbered("rate 4 5 1 %d", 39), "rate 1 0 1 1000000", "ok 0"},
		{nil, "consumer 7 5000", "ok 0"},
		{shop(), "consumer 7 5", "no 4"},
		{numbered("consumer %d 5", 20), "consumer 21 5", "no 11"},
		{nil, "merchant 3 0 10000", "ok 0"},
		{shop(), "merchant 3 0 0", "no 4"},
		{shop(), "order 1 7 3 0 2 1200 3x1000 1x501", "ok 3501"},
		{shop(), "order 1 7 3 1 2 1200 3x1000 1x501", "no 3"},
		{shop("rate 1 0 1 2"), "order 1 7 3 1 2 1200 3x1000 1x501", "ok 1750"},
		{shop(), "order 1 8 3 0 2 1200 3x1000", "no 4"},
		{shop(), "order 1 7 3 0 2 1200 1x100001", "no 5"},
		{shop("order 1 7 3 0 2 1200 3x1000"), "ship 1 0 2", "ok 2000"},
		{shipped2(), "ship 1 0 2", "no 6"},
		{manyPlans(), "ship 1 0 1", "no 8"},
		{shipped2(), "pay 1 0 2140", "ok 100"},
		{shipped2(), "pay 1 1 500", "no 3"},
		{shipped2("rate 1 0 1 1000"), "pay 1 1 5", "no 7"},
		{shipped2(), "refund 1 0 1", "ok 0"},
		{shipped2("pay 1 0 2040"), "refund 1 0 1", "ok 1000"},
		{shipped2(), "dispute 1 300", "ok 300"},
		{shipped2("dispute 1 300"), "dispute 1 300", "no 9"},
		{shipped2("dispute 1 300"), "rule 1 1", "ok 300"},
		{shipped2("dispute 1 300"), "rule 1 0", "ok 0"},
		{shipped2(), "rule 1 1", "no 9"},
		{shipped2(), "payout 3 0", "ok 1440"},
		{shipped2("payout 3 0"), "payout 3 0", "no 10"},
		{shipped2(), "release 3 0 60", "ok 60"},
		{shipped2(), "release 3 0 361", "no 7"},
		{shipped2(), "payoff 1", "ok 2000"},
		{shipped2("payoff 1"), "payoff 1", "no 10"},
	} {
		checkLast(t, r.setup, r.line, r.want)
		checkLast(t, r.setup, "again k "+r.line, r.want)
	}
}

func TestScriptQueries(t *testing.T) {
	trade := shipped2("rate 1 0 1 2", "rate 2 0 1 160", "rate 4 0 3 1", "consumer 8 50000", "merchant 4 500 1000", "order 2 8 4 4 1 0 2x1000", "order 3 7 4 2 1 0 3x700", "ship 2 0 2", "ship 3 0 1", "pay 1 0 500", "pay 2 4 2500", "payout 4 4")
	for _, r := range []struct {
		setup      []string
		line, want string
	}{
		{nil, "owed 7 EUR", "0.00"}, {nil, "owed 7 USD", "0.00"}, {nil, "owed 7 JPY", "0"}, {nil, "owed 7 GBP", "0.00"}, {nil, "owed 7 KWD", "0.000"}, {nil, "owed 7 CHF", "0.00"},
		{trade, "owed 7 EUR", "15.40"}, {trade, "owed 7 JPY", "700"}, {trade, "owed 7 KWD", "0.000"}, {trade, "owed 8 KWD", "0.000"}, {trade, "owed 8 EUR", "0.00"}, {trade, "owed 3 EUR", "0.00"},
		{shipped2("pay 1 0 2035"), "owed 7 EUR", "0.05"}, {shipped2("day 40"), "owed 7 EUR", "25.40"},
		{nil, "payable 3 EUR", "0.00"}, {trade, "payable 3 EUR", "-14.40"}, {trade, "payable 3 JPY", "0"}, {trade, "payable 4 JPY", "-599"}, {trade, "payable 4 KWD", "0.000"}, {trade, "payable 7 EUR", "0.00"},
		{shipped2("payout 3 0", "refund 1 0 1"), "payable 3 EUR", "10.00"},
		{nil, "held 3 EUR", "0.00"}, {trade, "held 3 EUR", "-3.60"}, {trade, "held 4 JPY", "-66"}, {trade, "held 4 KWD", "-0.190"}, {trade, "held 3 USD", "0.00"}, {trade, "held 8 KWD", "0.000"},
		{shipped2("release 3 0 355"), "held 3 EUR", "-0.05"},
		{nil, "cash EUR", "0.00"}, {nil, "cash JPY", "0"}, {nil, "cash KWD", "0.000"}, {trade, "cash EUR", "5.00"}, {trade, "cash KWD", "0.790"}, {trade, "cash USD", "0.00"}, {shipped2("payout 3 0"), "cash EUR", "-14.40"},
		{nil, "exposure 7", "none"}, {trade, "exposure 7", "30.34"}, {trade, "exposure 8", "0.00"}, {trade, "exposure 3", "none"}, {trade, "exposure 1", "none"}, {shop(), "exposure 7", "0.00"}, {shipped2(), "exposure 7", "35.01"},
		{nil, "order 1", "none"}, {trade, "order 1", "1 EUR 35.01 20.00 0.00 15.40 30.21"}, {trade, "order 2", "2 KWD 2.000 2.000 0.000 0.000 0.000"}, {trade, "order 3", "3 JPY 2100 700 0 700 2100"}, {trade, "order 7", "none"}, {shop("order 1 8 3 0 1 0 1x1"), "order 1", "none"},
		{nil, "audit", "audit 0"}, {trade, "audit", "audit 0"},
		{nil, "trial", "trial 0 0 0 0 0 0"}, {trade, "trial", "trial 0 0 0 0 0 0"},
	} {
		checkLast(t, r.setup, r.line, r.want)
	}
}

// TestScriptAmountsBeyondTheGreatest has a cash that is not an amount any more.
func TestScriptAmountsBeyondTheGreatest(t *testing.T) {
	setup := shop("order 1 7 3 0 1 0 1x100", "rate 2 0 1 1000", "rate 4 0 1 1000", "rate 0 2 1 1", "rate 0 4 1 1")
	checkLast(t, append(setup, "pay 1 0 1000000000000"), "cash EUR", "10000000000.00")
	checkLast(t, append(setup, "pay 1 0 1000000000000", "pay 1 0 1"), "cash EUR", "?")
	checkLast(t, append(setup, "pay 1 0 1000000000000", "pay 1 0 1000000000000"), "cash EUR", "?")
	checkLast(t, append(setup, "pay 1 2 1000000000000"), "cash JPY", "1000000000000")
	checkLast(t, append(setup, "pay 1 2 1000000000000", "pay 1 2 1000"), "cash JPY", "?")
	checkLast(t, append(setup, "pay 1 4 999999999999"), "cash KWD", "999999999.999")
	checkLast(t, append(setup, "pay 1 4 999999999999", "pay 1 4 1000"), "cash KWD", "?")
	// Everything else goes on.
	checkLast(t, append(setup, "pay 1 0 1000000000000", "pay 1 0 1"), "audit", "audit 0")
	checkLast(t, append(setup, "pay 1 0 1000000000000", "pay 1 0 1", "cash EUR"), "cash JPY", "0")
	checkLast(t, append(setup, "pay 1 0 1000000000000", "pay 1 0 1", "cash EUR"), "trial", "trial 0 0 0 0 0 0")
}

// TestScriptRejectsLines has lines for which the output is the same with whatever precedes them.
func TestScriptRejectsLines(t *testing.T) {
	for _, line := range []string{
		"fly", "a", "0", "7", "-", "?", "what", "ok", "ok 0", "none", "s0", "s0 day 5", "k day 5", "EUR", "too long", "Audit", "AUDIT", "audits", "audi", "trials", "Trial", "owe 7 EUR", "credit 7 EUR", "statement 7", "limit 7", "totals EUR", "merchants",
		// A word too few or too many.
		"owed", "owed 7", "owed EUR", "owed 7 EUR 5", "owed 7 8 EUR", "owed 7 EUR EUR", "payable", "payable 3", "payable EUR", "payable 3 EUR 5", "held", "held 3", "held EUR", "held 3 EUR 5",
		"cash", "cash 7 EUR", "cash EUR USD", "cash EUR 5", "exposure", "exposure 7 EUR", "exposure 7 8", "order", "order 1 EUR", "order 1 2", "order 1 7 3 0 1 0", "audit 1", "audit audit", "audit 0", "trial 1", "trial EUR", "trial trial",
		"day", "day 5 6", "rate 1 0 1", "rate 1 0 1 2 3", "consumer 7", "consumer 7 5 6", "merchant 3 0", "merchant 3 0 0 0", "order 1 7 3 0 1 0 1x", "ship 1 0", "ship 1 0 1 1", "pay 1 0", "pay 1 0 5 5", "refund 1 0", "refund 1 0 1 1", "dispute 1", "dispute 1 5 5", "rule 1", "rule 1 0 0", "payout 3", "payout 3 0 0", "release 3 0", "release 3 0 5 5", "payoff", "payoff 1 1",
		// Words in another order.
		"owed EUR 7", "EUR cash", "7 owed EUR", "5 day", "7 exposure", "1 order",
		// No such currency.
		"owed 7 XXX", "owed 7 eur", "owed 7 Eur", "owed 7 EU", "owed 7 EURO", "owed 7 0", "owed 7 -1", "cash XXX", "cash eur", "cash 0", "payable 3 jpy", "held 3 EURR", "cash E", "cash EUR,",
		// No numbers in decimal.
		"owed x EUR", "owed 07 EUR", "owed 00 EUR", "owed -0 EUR", "owed +7 EUR", "owed -07 EUR", "owed --7 EUR", "owed - EUR", "owed 7- EUR", "owed 0x7 EUR", "owed 7.0 EUR", "owed 1e2 EUR", "owed 1_0 EUR", "owed 10000000000000000 EUR", "owed -10000000000000000 EUR", "owed 9223372036854775808 EUR", "owed 18446744073709551623 EUR", "owed 00000000000000007 EUR",
		"payable 03 EUR", "payable -0 EUR", "payable +3 EUR", "held 03 EUR", "held -0 EUR", "held x EUR",
		"exposure x", "exposure 07", "exposure -0", "exposure +7", "exposure 00", "exposure 10000000000000000", "exposure -10000000000000000", "exposure 18446744073709551623", "order x", "order 01", "order -0", "order +1", "order 1x1", "order 10000000000000000", "order 18446744073709551617",
		"day x", "day 05", "day +5", "day -5", "day -0", "day 00", "day 10000000000000000", "day 18446744073709551621", "day 000000000000000000005", "consumer 07 5", "consumer 7 +5", "order 9 7 3 0 1 0 01x5", "order 9 7 3 0 1 0 1x-5", "order 9 7 3 0 1 0 1X5", "order 9 7 3 0 1 0 1x5x5",
		// Commands that are not valid.
		"day 100001", "day 9999999999999999", "rate 1 1 1 1", "rate 6 0 1 1", "rate 1 0 0 1", "rate 1 0 1000001 1", "consumer 0 5", "consumer 1000 5", "consumer 8 1000000000001", "merchant 9 10001 0", "merchant 9 0 10001", "order 0 7 3 0 1 0 1x5", "order 9 7 3 6 1 0 1x5", "order 9 7 3 0 0 0 1x5", "order 9 7 3 0 25 0 1x5", "order 9 7 3 0 1 10001 1x5", "order 9 7 3 0 1 0 0x5", "order 9 7 3 0 1 0 1001x5", "order 9 7 3 0 1 0 1x0", "order 9 7 3 0 1 0 1x1000001", "order 9 7 3 0 1 0 1x1 1x1 1x1 1x1 1x1 1x1 1x1 1x1 1x1",
		"ship 1 8 1", "ship 1 0 0", "ship 1 0 1001", "pay 1 6 5", "pay 1 0 0", "pay 1 0 1000000000001", "refund 1 8 1", "dispute 1 0", "rule 1 2", "payout 3 6", "release 3 0 0", "payoff 0", "payoff 1000", "Day 5", "DAY 5", "days 5",
		// again without a Key, without a command, or with one that is not valid.
		"again", "again k", "again s1", "again day", "again day 5", "again k fly", "again k k day 5", "again again k day 5", "again k again k day 5", "again k day", "again k day x", "again k day 05", "again k day 5 6", "again k order 1", "again k owed 7 EUR", "again k audit", "again k trial", "again k cash EUR", "again k exposure 7", "Again k day 5",
		"again K day 5", "again k-1 day 5", "again k.1 day 5", "again abcdefghijklm day 5", "again \u00e9 day 5", "again \xff day 5", "again k\t day 5", "again _ day 5",
		// Bytes that are not printable are parts of words.
		"\t", "\r", "\x00", "\v", "\f", "\x7f", "\u00a0", "\u2028", "\xff", "\xc3", "audit\r", "audit\t", "\taudit", "audit\x00", "audit\u00a0", "\u00a0audit", "audit\xff", "audit \t", "audit \r", "day\t5", "day 5\r", "day\v5", "day 5\t", "day\u00a05", "day \xb5", "cash\tEUR", "cash EUR\r", "owed 7\tEUR", "\x80day 5", "day 5\xc2", "caf\u00e9", "owed \u0667 EUR", "trial\f",
	} {
		checkScript(t, fmt.Sprintf("%q", line), []string{line}, "what")
		setup := shipped2("pay 1 0 500")
		checkLast(t, setup, line, "what")
		checkLast(t, append(setup, line), line, "what")
		// Nothing of it is done, and no Key is used up.
		checkLast(t, append(setup, line), "again s5 day 40", "ok 1")
		checkLast(t, append(setup, line, "day 40"), "again s5 day 50", "ok 1")
		checkLast(t, append(setup, line), "owed 7 EUR", "15.40")
	}
}

// TestScriptNumbers has ids that are none, and numbers with as many digits as they may have.
func TestScriptNumbers(t *testing.T) {
	setup := shipped2("pay 1 0 500")
	for _, id := range []string{"0", "-1", "-7", "-3", "1000", "999", "1007", "2147483648", "4294967303", "4294967299", "1000000000000000", "9999999999999999", "-9999999999999999", "-1000000000000000"} {
		checkLast(t, setup, "owed "+id+" EUR", "0.00")
		checkLast(t, setup, "payable "+id+" KWD", "0.000")
		checkLast(t, setup, "held "+id+" JPY", "0")
		checkLast(t, setup, "exposure "+id, "none")
		checkLast(t, setup, "order "+id, "none")
	}
	checkLast(t, []string{"consumer 999 5", "merchant 999 0 0", "order 999 999 999 0 1 0 1x5", "ship 999 0 1"}, "owed 999 EUR", "0.05")
	checkLast(t, []string{"consumer 999 5", "merchant 999 0 0", "order 999 999 999 0 1 0 1x5", "ship 999 0 1"}, "payable 999 EUR", "-0.05")
	checkLast(t, []string{"consumer 999 5", "merchant 999 0 0", "order 999 999 999 0 1 0 1x5"}, "order 999", "999 EUR 0.05 0.00 0.00 0.00 0.05")
	checkLast(t, []string{"consumer 999 1000000000000"}, "exposure 999", "0.00")
}

func TestScriptSpaces(t *testing.T) {
	checkScript(t, "spaces", []string{"  day   5", "day 9  ", " day  12   ", "  cash    EUR ", " owed  7   EUR  ", "audit ", " trial", "exposure   7 ", " order  1", " again   k    day   20 ", "  fly  away "},
		"ok 0", "ok 0", "ok 0", "0.00", "0.00", "audit 0", "trial 0 0 0 0 0 0", "none", "none", "ok 0", "what")
	checkScript(t, "an order", []string{" consumer  7   500", "merchant 3  0 0 ", "   order 1 7 3 0  1 0   2x100    1x7  ", "order   1"}, "ok 0", "ok 0", "ok 207", "1 EUR 2.07 0.00 0.00 0.00 2.07")
	checkScript(t, "no words", []string{"", " ", "day 5", "", "     ", "day 5", "", ""}, "ok 0", "no 2")
	checkScript(t, "no words alone", []string{"", "  ", ""})
	// Lines without words use up no Key.
	checkScript(t, "Keys behind lines without words", []string{"", "day 5", " ", "again s0 day 9", "again s1 day 9"}, "ok 0", "ok 0", "ok 0")
	if got := impl.RunScript(" \n"); got != "" {
		t.Errorf("a space: %q", got)
	}
}

func TestScriptKeys(t *testing.T) {
	checkScript(t, "a Key that was used", []string{"day 5", "again s0 day 9", "again s0 consumer 7 5", "exposure 7", "day 6"}, "ok 0", "ok 0", "ok 0", "none", "ok 0")
	checkScript(t, "an own answer is repeated", append(shipped2(), "again s3 day 9", "again s2 ship 1 0 1", "again s3 ship 1 0 1", "owed 7 EUR"), "ok 0", "ok 0", "ok 3501", "ok 2000", "ok 2000", "ok 3501", "ok 2000", "20.40")
	checkScript(t, "a Key of again that was used", []string{"again k day 5", "again k day 9", "again k consumer 7 5", "day 6"}, "ok 0", "ok 0", "ok 0", "ok 0")
	checkScript(t, "a Key that was used by a rejected command", []string{"day 0", "again s0 day 9", "again s0 day 12", "day 10"}, "no 2", "ok 0", "ok 0", "ok 0")
	checkScript(t, "a Key of again that was rejected", []string{"again k day 0", "again k day 9", "again k day 12", "day 10"}, "no 2", "ok 0", "ok 0", "ok 0")
	checkScript(t, "the Key of the first line", []string{"again s0 day 5", "day 9", "day 6"}, "ok 0", "ok 0", "ok 0")
	checkScript(t, "the Key of a later line", []string{"day 1", "again s2 consumer 7 500", "day 2", "day 3", "day 3", "exposure 7"}, "ok 0", "ok 0", "ok 0", "ok 0", "ok 0", "0.00")
	checkScript(t, "the answer of a later line", []string{"consumer 7 500", "merchant 3 0 0", "order 1 7 3 0 1 0 2x100", "again s4 ship 1 0 1", "day 5", "pay 1 0 100", "cash EUR", "pay 1 0 100", "cash EUR"}, "ok 0", "ok 0", "ok 200", "ok 100", "ok 0", "ok 100", "0.00", "ok 0", "1.00")
	checkScript(t, "the Key of a later line, rejected", []string{"again s1 day 0", "day 5", "day 6", "day 6"}, "no 2", "ok 0", "ok 0", "no 2")
	checkScript(t, "again and other lines use up no Key", []string{"again a day 1", "again b day 2", "audit", "fly", "again", "again c day 0", "day x", "", "order 5", "day 3", "again s0 day 9", "day 4", "again s1 day 9", "day 5"},
		"ok 0", "ok 0", "audit 0", "what", "what", "no 2", "what", "none", "ok 0", "ok 0", "ok 0", "ok 0", "ok 0")
	checkScript(t, "rejected lines use up a Key", []string{"day 0", "day 0", "payoff 5", "day 1", "again s3 day 9", "again s2 day 2", "day 2", "day 3"}, "no 2", "no 2", "no 4", "ok 0", "ok 0", "ok 0", "no 2", "ok 0")
	checkScript(t, "repeated lines use up a Key", []string{"again s0 day 1", "day 5", "day 2", "again s1 day 9", "day 3"}, "ok 0", "ok 0", "ok 0", "ok 0", "ok 0")
	checkScript(t, "Keys are in decimal", append(numbered("day %d", 12), "again s11 day 90", "again s10 day 90", "again s9 day 90", "again s011 day 13", "again s12 day 14", "day 15", "day 15"),
		"ok 0", "ok 0", "ok 0", "ok 0", "ok 0", "ok 0", "ok 0", "ok 0", "ok 0", "ok 0", "ok 0", "ok 0", "ok 0", "ok 0", "ok 0", "ok 0", "ok 0", "ok 0", "ok 0")
	checkLast(t, append(numbered("day %d", 12), "again s11 day 90", "again s011 day 13", "again s12 day 14", "day 15"), "day 15", "ok 0")
	checkScript(t, "Keys of 1 and 12 letters and digits", []string{"again a day 1", "again abcdefghij09 day 2", "again 0 day 3", "again abcdefghij09 day 4", "again abcdefghij0 day 4", "again day day 5", "again again day 6", "again order order 1 7 3 0 1 0 1x1"}, "ok 0", "ok 0", "ok 0", "ok 0", "ok 0", "ok 0", "ok 0", "no 4")
}

func TestScriptLimits(t *testing.T) {
	const long = "too long\n"
	padding := strings.Repeat(" ", impl.MaxText)
	for _, r := range []struct{ name, text, want string }{
		{"40 lines", scriptOf(numbered("day %d", 40)...), strings.Repeat("ok 0\n", 40)},
		{"41 lines", scriptOf(numbered("day %d", 41)...), long},
		{"40 lines without words", strings.Repeat("\n", 40), ""},
		{"41 lines without words", strings.Repeat("\n", 41), long},
		{"40 lines, the last one with a word", strings.Repeat("\n", 39) + "audit\n", "audit 0\n"},
		{"41 lines, the last one with a word", strings.Repeat("\n", 40) + "audit\n", long},
		{"40 lines, and one that is not ended", strings.Repeat("\n", 40) + "audit", long},
		{"4000 bytes", "day 5" + padding[:3994] + "\n", "ok 0\n"},
		{"4001 bytes", "day 5" + padding[:3995] + "\n", long},
		{"4000 bytes in lines", "day 5\n" + padding[:1993] + "\n" + padding[:1999] + "\n", "ok 0\n"},
		{"4001 bytes in lines", "day 5\n" + padding[:1994] + "\n" + padding[:1999] + "\n", long},
		{"4000 bytes that are no spaces", strings.Repeat("x", 3999) + "\n", "what\n"},
		{"4000 bytes above 127", strings.Repeat("\xff", 3999) + "\n", "what\n"},
		{"4001 bytes above 127", strings.Repeat("\u00e9", 2000) + "\n", long},
		{"4000 bytes of words", strings.Repeat("a ", 1999) + "a\n", "what\n"},
		{"4000 bytes of a number", "owed " + strings.Repeat("1", 3990) + " EUR\n", "what\n"},
		{"many lines and bytes", strings.Repeat("audit\n", 100000), long},
		{"many bytes", strings.Repeat("x", 1000000) + "\n", long},
		{"no line feed", "audit", long},
		{"no line feed, and a carriage return", "audit\r", long},
		{"no line feed at the end", "audit\naudit", long},
		{"a space behind the line feed", "audit\n ", long},
		{"a space", " ", long},
		{"a byte 0 at the end", "audit\n\x00", long},
		{"4000 bytes without line feed", padding, long},
	} {
		if got := impl.RunScript(r.text); got != r.want {
			t.Errorf("%s: %s, not %q", r.name, brief(got), r.want)
		}
	}
	// With 40 lines, the last Key is s39.
	checkLast(t, append(numbered("day %d", 38), "again s38 day 50"), "day 60", "ok 0")
	checkLast(t, append([]string{"again s38 day 0", "again s38 day 1"}, numbered("day %d", 37)...), "audit", "audit 0")
}

var (
	decimalForm = regexp.MustCompile(`^(0|-?[1-9][0-9]{0,15})$`)
	wordForm    = regexp.MustCompile(`[^ ]+`)
)

// amountLine is the output for an amount, "what" where an id or a code is none.
func amountLine(id, code string, balance func(id, cur int64) int64) string {
	cur := int64(slices.Index(codes, code))
	if cur < 0 || !decimalForm.MatchString(id) {
		return "what"
	}
	if text := amountIn(cur, balance(numberOf(id), cur)); text != "" {
		return text
	}
	return "?"
}

// queryLine is the output of a line that is not a command, and false for all other lines.
func queryLine(list []impl.Cmd, words []string) (string, bool) {
	w, _ := impl.Play(list)
	switch form := fmt.Sprint(words[0], " ", len(words)); form {
	case "owed 3":
		return amountLine(words[1], words[2], func(id, cur int64) int64 { return impl.OwedBy(list, id, cur) }), true
	case "payable 3":
		return amountLine(words[1], words[2], func(id, cur int64) int64 { return impl.PayableTo(list, id, cur) }), true
	case "held 3":
		return amountLine(words[1], words[2], func(id, cur int64) int64 { return impl.HeldFrom(list, id, cur) }), true
	case "cash 2":
		return amountLine("0", words[1], func(_, cur int64) int64 { return impl.CashOf(list, cur) }), true
	case "exposure 2", "order 2":
		if !decimalForm.MatchString(words[1]) {
			return "what", true
		}
		id := numberOf(words[1])
		if o, ok := impl.OrderIn(list, id); ok && words[0] == "order" {
			return orderText(o), true
		}
		if n := impl.ExposureOf(list, id); n != -1 && words[0] == "exposure" {
			return amountIn(0, n), true
		}
		return "none", true
	case "audit 1":
		return fmt.Sprint("audit ", impl.Audited(w)), true
	case "trial 1":
		return "trial " + strings.Trim(fmt.Sprint(impl.Trial(w.Ledger)), "[]"), true
	}
	return "", false
}

// outputOf runs a script line by line, with the functions for lists of commands.
func outputOf(text string) string {
	lines := strings.SplitAfter(text, "\n")
	if len(text) > 4000 || len(lines) > 41 || lines[len(lines)-1] != "" {
		return "too long\n"
	}
	output, own := "", 0
	var list []impl.Cmd
	for _, line := range lines[:len(lines)-1] {
		words := wordForm.FindAllString(strings.TrimSuffix(line, "\n"), -1)
		if len(words) == 0 {
			continue
		}
		if shown, ok := queryLine(list, words); ok {
			output += shown + "\n"
			continue
		}
		text := strings.TrimPrefix(strings.Join(words, " "), "again ")
		if words[0] != "again" {
			text = fmt.Sprintf("s%d %s", own, text)
		}
		c, ok := commandOf(text)
		if !ok {
			output += "what\n"
			continue
		}
		if words[0] != "again" {
			own++
		}
		list = append(list, c)
		if _, answers := impl.Play(list); answers[len(answers)-1].Code == impl.SvOk {
			output += fmt.Sprintln("ok", answers[len(answers)-1].N)
		} else {
			output += fmt.Sprintln("no", answers[len(answers)-1].Code)
		}
	}
	return output
}

// everyQuery has each query, with ids and codes for which something is found in random scripts, and others.
var everyQuery = []string{
	"owed 1 EUR", "owed 2 USD", "owed 9 JPY", "owed -5 KWD", "payable 1 EUR", "payable 2 USD", "payable 0 GBP", "held 1 EUR", "held 2 USD", "held 3 CHF", "cash EUR", "cash USD", "cash JPY",
	"exposure 1", "exposure 2", "exposure 3", "exposure 0", "order 1", "order 2", "order 3", "order 9", "order 7", "audit", "trial",
}

// randomLine is a command, mostly, or a query, a line that is repeated or one that is none.
func randomLine(source *rand.Rand) string {
	switch source.Intn(12) {
	case 0:
		return fmt.Sprintf("again s%d %s", source.Intn(30), randomText(source))
	case 1:
		return fmt.Sprintf("again %c %s", 'a'+source.Intn(4), randomText(source))
	case 2, 3, 4:
		return everyQuery[source.Intn(len(everyQuery))]
	case 5:
		return nearText(source, randomText(source))
	case 6:
		return nearText(source, everyQuery[source.Intn(len(everyQuery))])
	case 7:
		return strings.Repeat(" ", source.Intn(3))
	case 8:
		return strings.ReplaceAll(" "+randomText(source)+" ", " ", strings.Repeat(" ", 1+source.Intn(3)))
	}
	return randomText(source)
}

// randomScript has up to as many lines as stated.
func randomScript(source *rand.Rand, most int) []string {
	lines := []string{
		"consumer 1 100000", "merchant 1 1000 2000", "rate 1 0 9 10", "rate 2 0 1 7", "order 1 1 1 0 3 1200 9x2500 20x70", "ship 1 0 2",
		"consumer 2 20000", "merchant 2 333 0", "order 2 2 2 1 2 0 5x999", "ship 2 0 1",
	}
	for range source.Intn(most - len(lines) + 1) {
		lines = append(lines, randomLine(source))
	}
	return lines
}

func TestRandomScripts(t *testing.T) {
	source := rand.New(rand.NewSource(141))
	firsts := map[string]int{}
	for range 1500 {
		text := scriptOf(randomScript(source, impl.MaxScript)...)
		got, want := impl.RunScript(text), outputOf(text)
		if got != want {
			t.Fatalf("%q: %q, not %q", text, got, want)
		}
		for _, line := range strings.Split(got, "\n") {
			first, _, _ := strings.Cut(line, " ")
			firsts[first]++
		}
	}
	for _, first := range []string{"ok", "no", "what", "none", "audit", "trial", "0.00", "0"} {
		if firsts[first] < 50 {
			t.Errorf("%d lines of output begin with %q", firsts[first], first)
		}
	}
}

// TestScriptsOfAnyBytes changes scripts so that they are often too long, or not ended.
func TestScriptsOfAnyBytes(t *testing.T) {
	source := rand.New(rand.NewSource(142))
	tooLong := 0
	for i := range 3000 {
		text := scriptOf(randomScript(source, impl.MaxScript+2)...)
		for range source.Intn(4) {
			text = nearLines(source, text)
		}
		if i%4 == 0 {
			bytes := make([]byte, source.Intn(4100))
			source.Read(bytes)
			text = string(bytes) + "\n"
		}
		got, want := impl.RunScript(text), outputOf(text)
		if got != want {
			t.Fatalf("%q: %q, not %q", text, got, want)
		}
		if got == "too long\n" {
			tooLong++
		}
	}
	if tooLong < 100 {
		t.Errorf("%d scripts were too long", tooLong)
	}
}

// fixedScripts have each line of the table, each of its outputs, and Keys that are repeated; there is room for a few more lines.
func fixedScripts() [][]string {
	return [][]string{
		shipped2("owed 7 EUR", "pay 1 0 500", "owed 7 EUR", "payable 3 EUR", "held 3 EUR", "cash EUR", "exposure 7", "order 1", "order 2", "exposure 8", "audit", "trial", "fly", "", "again s3 ship 1 0 1", "again s4 ship 1 0 1", "order 1", "day 40", "payoff 1", "payout 3 0", "again s5 day 90", "day 90", "owed 7 EUR"),
		{"again s3 day 5", "day 6", "day 6", "again s0 day 7", " ", "day 8", "what", "day 9", "day 9", "again", "again k day 20", "day 21"},
		shop("order 1 7 3 0 1 0 1x100", "pay 1 0 1000000000000", "cash EUR", "pay 1 0 1000000000000", "cash EUR", "audit", "trial", "cash JPY", "owed 7 EUR"),
		slices.DeleteFunc(everyKind(), func(text string) bool { return strings.HasPrefix(text, "rule") }),
	}
}

func scriptsToExtend(seed int64) [][]string {
	source := rand.New(rand.NewSource(seed))
	scripts := fixedScripts()
	for range 30 {
		scripts = append(scripts, randomScript(source, impl.MaxScript-1))
	}
	return scripts
}

// TestScriptsCutOff checks promise 14 for a cut behind each line.
func TestScriptsCutOff(t *testing.T) {
	for _, lines := range scriptsToExtend(143) {
		whole := impl.RunScript(scriptOf(lines...))
		shown := 0
		for n := range len(lines) + 1 {
			part := impl.RunScript(scriptOf(lines[:n]...))
			if n > 0 && strings.Trim(lines[n-1], " ") != "" {
				shown++
			}
			if !strings.HasPrefix(whole, part) || strings.Count(part, "\n") != shown {
				t.Fatalf("%q, cut off behind %d lines: %q, and not %q", lines, n, part, whole)
			}
		}
	}
}

// withoutLine takes a line of an output out.
func withoutLine(output string, at int) string {
	lines := strings.SplitAfter(output, "\n")
	return strings.Join(slices.Delete(lines, at, at+1), "")
}

// TestScriptQueriesChangeNothing puts each query in behind each line.
func TestScriptQueriesChangeNothing(t *testing.T) {
	for _, lines := range scriptsToExtend(144) {
		whole := impl.RunScript(scriptOf(lines...))
		for n := range len(lines) + 1 {
			shown := strings.Count(impl.RunScript(scriptOf(lines[:n]...)), "\n")
			for _, query := range everyQuery {
				output := impl.RunScript(scriptOf(slices.Insert(slices.Clone(lines), n, query)...))
				if strings.Count(output, "\n") != strings.Count(whole, "\n")+1 || withoutLine(output, shown) != whole {
					t.Fatalf("%q with %q behind %d lines: %q, not %q", lines, query, n, output, whole)
				}
			}
		}
	}
}

func TestScriptsAgain(t *testing.T) {
	for _, lines := range scriptsToExtend(145) {
		text := scriptOf(lines...)
		before := strings.Clone(text)
		first := impl.RunScript(text)
		impl.RunScript(text + "x")
		impl.RunScript("day 5\nconsumer 7 5\nagain k day 9\n")
		second := impl.RunScript(text)
		if first != second || text != before {
			t.Errorf("%q: %q and %q", text, first, second)
		}
		checkTextsApart(t, text, first, second)
	}
	for _, text := range []string{"x\n", "what\n", "too long", "none\n", "audit 0\n"} {
		checkTextsApart(t, text, impl.RunScript(text))
	}
}
