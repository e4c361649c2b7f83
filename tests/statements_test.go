package tests

import (
	"fmt"
	"math"
	"math/rand"
	"reflect"
	"regexp"
	"slices"
	"strings"
	"testing"

	"loop.example/g00714/impl"
)

var codes = []string{"EUR", "USD", "JPY", "GBP", "KWD", "CHF"}

func postText(p impl.Post) string {
	return fmt.Sprintf("%d.%d.%d %s %d", p.A.Class, p.A.Id, p.A.Sub, codes[p.Cur], p.N)
}

// checkPost checks that a valid Post is recovered from its text.
func checkPost(t *testing.T, p impl.Post) {
	t.Helper()
	want := postText(p)
	if s := impl.PostText(p); s != want {
		t.Errorf("PostText(%+v) = %q, not %q", p, s, want)
	}
	if q, ok := impl.ReadPost(want); !ok || q != p {
		t.Errorf("ReadPost(%q) = %+v, %v", want, q, ok)
	}
}

func checkNoPost(t *testing.T, text string) {
	t.Helper()
	if p, ok := impl.ReadPost(text); ok || p != (impl.Post{}) {
		t.Errorf("ReadPost(%q) = %+v, %v", text, p, ok)
	}
}

// everyAcct returns the accounts of the platform, and those of a few consumers and merchants.
func everyAcct() []impl.Acct {
	var l []impl.Acct
	for _, class := range []int64{impl.ClConsumer, impl.ClMerchant} {
		for _, id := range []int64{1, 7, 9, 10, 42, 99, 100, 998, 999} {
			l = append(l, impl.Acct{Class: class, Id: id, Sub: 1}, impl.Acct{Class: class, Id: id, Sub: 2})
		}
	}
	for sub := int64(1); sub <= 5; sub++ {
		l = append(l, impl.Acct{Class: impl.ClPlatform, Sub: sub})
	}
	return l
}

func TestPostTexts(t *testing.T) {
	numbers := []int64{0, 1, 2, 9, 10, 12, 99, 100, 101, 1234567, most, most + 1, mostBalance - 1, mostBalance}
	texts := map[string]bool{}
	n := 0
	for _, a := range everyAcct() {
		for cur := range int64(6) {
			for _, number := range numbers {
				checkPost(t, impl.Post{A: a, Cur: cur, N: number})
				checkPost(t, impl.Post{A: a, Cur: cur, N: -number})
				texts[impl.PostText(impl.Post{A: a, Cur: cur, N: number})] = true
				n++
			}
		}
	}
	if len(texts) != n {
		t.Errorf("%d Posts have %d texts", n, len(texts))
	}
	for _, r := range []struct {
		p    impl.Post
		want string
	}{
		{impl.Post{A: impl.Acct{Class: 1, Id: 7, Sub: 1}, Cur: 4, N: -12}, "1.7.1 KWD -12"},
		{impl.Post{A: impl.Acct{Class: 2, Id: 999, Sub: 2}, N: 0}, "2.999.2 EUR 0"},
		{impl.Post{A: impl.Acct{Class: 3, Sub: 5}, Cur: 2, N: 1000000000000000}, "3.0.5 JPY 1000000000000000"},
		{impl.Post{A: impl.Acct{Class: 3, Sub: 1}, Cur: 5, N: -1000000000000000}, "3.0.1 CHF -1000000000000000"},
	} {
		if s := impl.PostText(r.p); s != r.want {
			t.Errorf("%q, not %q", s, r.want)
		}
		if p, ok := impl.ReadPost(r.want); !ok || p != r.p {
			t.Errorf("%q: %+v, %v", r.want, p, ok)
		}
	}
}

func TestPostTextRejects(t *testing.T) {
	numbers := append([]int64{-2, -1, 0, 1, 2, 3, 4, 5, 6, 999, 1000, 1 << 32}, extremes...)
	valid := func(a impl.Acct) bool {
		person := (a.Class == 1 || a.Class == 2) && 1 <= a.Id && a.Id <= 999 && (a.Sub == 1 || a.Sub == 2)
		return person || a.Class == 3 && a.Id == 0 && 1 <= a.Sub && a.Sub <= 5
	}
	written := 0
	for _, class := range numbers {
		for _, id := range numbers {
			for _, sub := range numbers {
				p := impl.Post{A: impl.Acct{Class: class, Id: id, Sub: sub}, Cur: 1, N: 5}
				s := impl.PostText(p)
				if (s != "") != valid(p.A) {
					t.Errorf("PostText(%+v) = %q", p, s)
				}
				if s != "" {
					written++
				}
			}
		}
	}
	if written != 2*7*2+5 {
		t.Errorf("%d accounts have a text", written)
	}
	for _, a := range everyAcct() {
		for _, cur := range append([]int64{-1, 6, 7}, extremes...) {
			if s := impl.PostText(impl.Post{A: a, Cur: cur, N: 5}); s != "" {
				t.Errorf("the currency %d: %q", cur, s)
			}
		}
		for _, n := range []int64{mostBalance + 1, -mostBalance - 1, math.MinInt64, math.MinInt64 + 1, math.MaxInt64} {
			if s := impl.PostText(impl.Post{A: a, Cur: 1, N: n}); s != "" {
				t.Errorf("N is %d: %q", n, s)
			}
		}
	}
	if s := impl.PostText(impl.Post{}); s != "" {
		t.Errorf("the zero value: %q", s)
	}
}

// noPosts are texts that are near to that of a Post.
var noPosts = []string{
	"", " ", "  ", ".. ", ".. EUR ", ".. EUR 0", "1.7.1", "1.7.1 ", "1.7.1 KWD", "1.7.1 KWD ", "1.7.1  -12", "1.7.1 -12", "KWD -12", " KWD -12", "1.7.1 KWD -12 5", "1.7.1 KWD EUR -12",
	"01.7.1 KWD -12", "1.07.1 KWD -12", "1.7.01 KWD -12", "1.7.1 KWD -012", "1.7.1 KWD 012", "1.7.1 KWD 00", "3.00.1 KWD 5",
	"+1.7.1 KWD 5", "-1.7.1 KWD 5", "1.+7.1 KWD 5", "1.-7.1 KWD 5", "1.7.+1 KWD 5", "1.7.-1 KWD 5", "1.7.1 KWD +5", "1.7.1 KWD --5", "1.7.1 KWD -", "1.7.1 KWD +", "3.-0.1 KWD 5", "1.7.1 KWD -0", "1.7.1 KWD 5-",
	"1.7.1 KWD 1000000000000001", "1.7.1 KWD -1000000000000001", "1.7.1 KWD 9999999999999999", "1.7.1 KWD -9999999999999999",
	"1.7.1 KWD 10000000000000000", "1.7.1 KWD -10000000000000000", "1.7.1 KWD 00000000000000005", "1.7.1 KWD 9223372036854775807", "1.7.1 KWD -9223372036854775808", "1.7.1 KWD 18446744073709551617",
	"18446744073709551617.7.1 KWD 5", "1.18446744073709551623.1 KWD 5", "1.7.18446744073709551617 KWD 5",
	"1.7.1  KWD -12", "1.7.1 KWD  -12", " 1.7.1 KWD -12", "1.7.1 KWD -12 ", "1 .7.1 KWD -12", "1.7. 1 KWD -12", "1.7.1\tKWD -12", "1.7.1 KWD\t-12", "1.7.1\u00a0KWD -12",
	"1.7 KWD 5", "1 KWD 5", "1.7.1.1 KWD 5", "1.7.1. KWD 5", ".1.7.1 KWD 5", "1..7.1 KWD 5", "1..1 KWD 5", ".7.1 KWD 5", "1.7. KWD 5", "1 7 1 KWD 5", "1,7,1 KWD 5", "1.7.1.KWD.5",
	"1.7.1 kwd -12", "1.7.1 Kwd -12", "1.7.1 KW -12", "1.7.1 KWDD -12", "1.7.1 XXX -12", "1.7.1 4 -12", "1.7.1 KWD\x00 -12",
	"1.7.1 KWD -12\n", "\n1.7.1 KWD -12", "1.7.1 KWD\n-12", "1.7.1 KWD -12\r", "1.7.1 KWD -12\n1.7.1 KWD -12", "1.7.1 KWD -12\x00",
	"1.7.1 KWD 1.2", "1.7.1 KWD -0.012", "1.7.1 KWD 1e3", "1.7.1 KWD 0x5", "1.7.1 KWD 1_000", "1.7.1 KWD x", "1.x.1 KWD 5", "x.7.1 KWD 5", "1.7.x KWD 5", "1.7.1 KWD \u0665",
	"0.7.1 KWD 5", "4.7.1 KWD 5", "1.0.1 KWD 5", "1.1000.1 KWD 5", "1.7.0 KWD 5", "1.7.3 KWD 5", "2.0.1 KWD 5", "2.1000.1 KWD 5", "2.7.0 KWD 5", "2.7.3 KWD 5", "3.1.1 KWD 5", "3.0.0 KWD 5", "3.0.6 KWD 5", "0.0.0 EUR 0",
}

func TestReadPostRejects(t *testing.T) {
	for _, text := range noPosts {
		checkNoPost(t, text)
	}
	for _, text := range []string{strings.Repeat("1", 100000), strings.Repeat(" ", 100000), strings.Repeat(".", 100000), "1.7.1 KWD " + strings.Repeat("0", 100000) + "5", "1.7.1 KWD -" + strings.Repeat("-", 100000), strings.Repeat("1.7.1 KWD 5 ", 10000)} {
		checkNoPost(t, text)
	}
	for b := range 256 { // each byte alone, and in the place of each byte of a text
		const text = "1.7.1 KWD -12"
		checkNoPost(t, string([]byte{byte(b)}))
		for i := range len(text) {
			near := text[:i] + string([]byte{byte(b)}) + text[i+1:]
			checkReadPost(t, near)
		}
	}
}

var postForm = regexp.MustCompile(`^(?:([12])\.([1-9][0-9]{0,2})\.([12])|(3)\.(0)\.([1-5])) (EUR|USD|JPY|GBP|KWD|CHF) (0|-?[1-9][0-9]{0,14}|-?1000000000000000)$`)

// postOf reads a Post by a regular expression.
func postOf(text string) (impl.Post, bool) {
	found := postForm.FindStringSubmatch(text)
	if found == nil {
		return impl.Post{}, false
	}
	a := impl.Acct{Class: numberOf(found[1] + found[4]), Id: numberOf(found[2] + found[5]), Sub: numberOf(found[3] + found[6])}
	return impl.Post{A: a, Cur: int64(slices.Index(codes, found[7])), N: numberOf(found[8])}, true
}

func checkReadPost(t *testing.T, text string) bool {
	t.Helper()
	want, wantOk := postOf(text)
	p, ok := impl.ReadPost(text)
	if p != want || ok != wantOk {
		t.Errorf("ReadPost(%q) = %+v, %v, not %+v, %v", text, p, ok, want, wantOk)
	}
	if ok && impl.PostText(p) != text {
		t.Errorf("ReadPost(%q) is written as %q", text, impl.PostText(p))
	}
	return ok
}

// anyPost returns a valid Post, often at a limit.
func anyPost(source *rand.Rand) impl.Post {
	accts := everyAcct()
	p := impl.Post{A: accts[source.Intn(len(accts))], Cur: source.Int63n(6)}
	switch source.Intn(4) {
	case 0:
		p.N = source.Int63n(2*mostBalance+1) - mostBalance
	case 1:
		p.N = []int64{mostBalance, -mostBalance, mostBalance - 1, 0, 1, -1}[source.Intn(6)]
	default:
		p.N = source.Int63n(2001) - 1000
	}
	return p
}

func TestReadPostAcceptsTextsAlone(t *testing.T) {
	source := rand.New(rand.NewSource(131))
	accepted, rejected := 0, 0
	for range 60000 {
		p := anyPost(source)
		checkPost(t, p)
		text := postText(p)
		for range 1 + source.Intn(2) {
			if text != "" {
				text = nearText(source, text)
			}
		}
		if checkReadPost(t, text) {
			accepted++
		} else {
			rejected++
		}
	}
	if accepted < 1000 || rejected < 1000 {
		t.Errorf("%d texts were accepted and %d rejected", accepted, rejected)
	}
}

func ledgerText(l []impl.Post) string {
	text := ""
	for _, p := range l {
		text += postText(p) + "\n"
	}
	return text
}

// checkLedger checks that a ledger is recovered from its text.
func checkLedger(t *testing.T, name string, l []impl.Post) {
	t.Helper()
	if !impl.LedgerOk(l) {
		t.Fatalf("%s: %+v is no ledger", name, l)
	}
	want := ledgerText(l)
	if s := impl.LedgerText(l); s != want {
		t.Errorf("%s: the text is %q, not %q", name, s, want)
	}
	if read, ok := impl.ReadLedger(want); !ok || !slices.Equal(read, l) {
		t.Errorf("%s: read are %+v, %v, not %+v", name, read, ok, l)
	}
}

func checkNoLedger(t *testing.T, text string) {
	t.Helper()
	if l, ok := impl.ReadLedger(text); ok || len(l) != 0 {
		t.Errorf("ReadLedger(%s) = %+v, %v", brief(text), l, ok)
	}
}

// greatLedger has as many Posts as a ledger may have, of all Classes and currencies.
func greatLedger() []impl.Post {
	var l []impl.Post
	for _, a := range everyAcct() {
		for cur := range int64(6) {
			l = append(l, impl.Post{A: a, Cur: cur, N: mostBalance - int64(len(l))})
		}
	}
	for id := int64(101); len(l) < impl.MaxPosts; id++ {
		l = append(l, impl.Post{A: impl.Acct{Class: impl.ClConsumer, Id: id, Sub: 2}, Cur: id % 6, N: -mostBalance})
	}
	slices.SortFunc(l, comparePosts)
	return l
}

func comparePosts(a, b impl.Post) int {
	return slices.Compare([]int64{a.A.Class, a.A.Id, a.A.Sub, a.Cur}, []int64{b.A.Class, b.A.Id, b.A.Sub, b.Cur})
}

func TestLedgerTexts(t *testing.T) {
	checkLedger(t, "no list", nil)
	checkLedger(t, "an empty list", []impl.Post{})
	for _, a := range everyAcct() {
		for cur := range int64(6) {
			for _, n := range []int64{1, -1, -12, mostBalance, -mostBalance} {
				checkLedger(t, "one Post", []impl.Post{{A: a, Cur: cur, N: n}})
			}
		}
	}
	checkLedger(t, "399 Posts", consumers(399))
	checkLedger(t, "400 Posts", consumers(400))
	checkLedger(t, "400 great Posts", greatLedger())
	checkLedger(t, "all currencies of an account", []impl.Post{{A: cash, N: 1}, {A: cash, Cur: 1, N: -2}, {A: cash, Cur: 2, N: 3}, {A: cash, Cur: 3, N: -4}, {A: cash, Cur: 4, N: 5}, {A: cash, Cur: 5, N: -6}})
	checkLedger(t, "ids in the order of numbers", []impl.Post{{A: consumerAcct(2, 1), N: 1}, {A: consumerAcct(10, 1), N: 1}, {A: consumerAcct(100, 1), N: 1}, {A: merchantAcct(3, 2), N: 1}, {A: merchantAcct(20, 1), N: 1}})
	// The order of currencies is that of their numbers, not of their codes.
	checkLedger(t, "JPY before GBP", []impl.Post{{A: owed, Cur: 2, N: 1}, {A: owed, Cur: 3, N: 1}})
	if l, ok := impl.ReadLedger(""); !ok || len(l) != 0 {
		t.Error("no text:", l, ok)
	}
	if s := impl.LedgerText([]impl.Post{{A: impl.Acct{Class: 1, Id: 7, Sub: 1}, Cur: 4, N: -12}, {A: impl.Acct{Class: 3, Sub: 1}, Cur: 4, N: 12}}); s != "1.7.1 KWD -12\n3.0.1 KWD 12\n" {
		t.Errorf("%q", s)
	}
}

func TestLedgerTextsOfRandomLedgers(t *testing.T) {
	source := rand.New(rand.NewSource(132))
	var l []impl.Post
	for range 500 {
		l, _ = impl.Posted(l, randomBatch(source))
		checkLedger(t, "posted", l)
	}
	for range 30 {
		w, _ := impl.Play(randomList(t, source))
		checkLedger(t, "played", w.Ledger)
	}
}

func TestLedgerTextRejects(t *testing.T) {
	first, second, third := impl.Post{A: owed, N: 1}, impl.Post{A: owed, Cur: 1, N: 1}, impl.Post{A: cash, N: 1}
	change := func(change func(*impl.Post)) impl.Post {
		p := second
		change(&p)
		return p
	}
	for name, l := range map[string][]impl.Post{
		"the zero value":            {{}},
		"N is 0":                    {first, change(func(p *impl.Post) { p.N = 0 }), third},
		"N is 0 alone":              {change(func(p *impl.Post) { p.N = 0 })},
		"N is too great":            {first, change(func(p *impl.Post) { p.N = mostBalance + 1 })},
		"N is too small":            {first, change(func(p *impl.Post) { p.N = -mostBalance - 1 })},
		"no such currency":          {first, change(func(p *impl.Post) { p.Cur = 6 })},
		"no such Class":             {first, change(func(p *impl.Post) { p.A.Class = 4 })},
		"no such Sub":               {first, change(func(p *impl.Post) { p.A.Sub = 3 })},
		"no such Id":                {first, change(func(p *impl.Post) { p.A.Id = 1000 })},
		"an equal Post":             {first, second, second, third},
		"an equal place":            {first, second, change(func(p *impl.Post) { p.N = 2 }), third},
		"another order of Cur":      {second, first},
		"another order of Class":    {third, first},
		"another order of Sub":      {{A: consumerAcct(7, 2), N: 1}, {A: consumerAcct(7, 1), N: 1}},
		"another order of Id":       {{A: consumerAcct(10, 1), N: 1}, {A: consumerAcct(2, 1), N: 1}},
		"the order of texts":        {{A: consumerAcct(10, 1), N: 1}, {A: consumerAcct(2, 1), N: 1}, {A: cash, N: 1}},
		"the last one not in order": {first, third, second},
		"one more than MaxPosts":    consumers(401),
		"many more than MaxPosts":   consumers(900),
		"more than MaxPosts":        append(greatLedger(), impl.Post{A: impl.Acct{Class: 3, Sub: 5}, Cur: 5, N: 1}),
	} {
		if s := impl.LedgerText(l); s != "" {
			t.Errorf("%s: %s", name, brief(s))
		}
		if text := textOfAny(l); text != "" {
			checkNoLedger(t, text)
		}
	}
}

// textOfAny writes also Posts that are not valid, if their currency has a code.
func textOfAny(l []impl.Post) string {
	for _, p := range l {
		if p.Cur < 0 || p.Cur > 5 {
			return ""
		}
	}
	return ledgerText(l)
}

func TestReadLedgerRejects(t *testing.T) {
	const a, b, c = "1.7.1 KWD -12\n", "3.0.1 USD 5\n", "3.0.1 KWD 12\n"
	if l, ok := impl.ReadLedger(a + b + c); !ok || len(l) != 3 {
		t.Fatal(l, ok)
	}
	for _, text := range []string{
		"x", "\n", "\n\n", " ", "x\n", "1.7.1 KWD -12", a + "3.0.1 KWD 12", a + b + "3.0.1 KWD 12", "\n" + a, a + "\n", a + "\n" + b, a + b + "\n", a + " \n" + b, a + " ", " " + a, a + "\x00",
		b + a, c + b, a + c + b, b + c + a, a + a, a + "1.7.1 KWD -12\n", a + "1.7.1 KWD 13\n", a + b + b + c, a + b + "3.0.1 USD 6\n" + c,
		"1.7.1 KWD 0\n", a + "3.0.1 USD 0\n" + c, "1.7.1 KWD -0\n", "1.7.1 KWD -012\n", "1.7.1 KWD -12 \n", "1.7.1  KWD -12\n", "1.7.1 KWD -12\r\n", "1.7.1 KWD -12\r\n" + b, "1.7.1 KWD -12\v" + b, "1.7.1 KWD -12\u2028" + b,
		"1.7.1 KWD 1000000000000001\n", "1.7.3 KWD 5\n", "1.7.1 XXX 5\n", a + "x\n" + c, a + "1.7.1 USD 5\n", "1.10.1 KWD 5\n1.9.1 KWD 5\n", a + "what" + c, "1.7.1 KWD -12\\n",
	} {
		checkNoLedger(t, text)
	}
	for _, text := range noPosts {
		checkNoLedger(t, text+"\n")
		checkNoLedger(t, a+text+"\n")
		checkNoLedger(t, "1.1.1 KWD 5\n"+text+"\n"+c)
	}
	for _, text := range []string{ledgerText(consumers(401)), ledgerText(consumers(900)), strings.Repeat(a, 10000), strings.Repeat("\n", 100000), strings.Repeat("x", 100000), strings.Repeat("1.7.1 KWD ", 10000)} {
		checkNoLedger(t, text)
	}
	if l, ok := impl.ReadLedger(ledgerText(consumers(400))); !ok || !slices.Equal(l, consumers(400)) {
		t.Error("400 Posts:", l, ok)
	}
}

// ledgerOf reads a ledger line by line.
func ledgerOf(text string) ([]impl.Post, bool) {
	var l []impl.Post
	for _, line := range strings.SplitAfter(text, "\n") {
		if line == "" { // behind the last line feed
			break
		}
		p, ok := postOf(strings.TrimSuffix(line, "\n"))
		if !ok || p.N == 0 || !strings.HasSuffix(line, "\n") || len(l) > 0 && comparePosts(l[len(l)-1], p) >= 0 {
			return nil, false
		}
		l = append(l, p)
	}
	return l, len(l) <= impl.MaxPosts
}

// nearLines changes one of the lines, or their order or number.
func nearLines(source *rand.Rand, text string) string {
	lines := strings.SplitAfter(text, "\n")
	i, j := source.Intn(len(lines)), source.Intn(len(lines))
	switch source.Intn(6) {
	case 0:
		lines[i], lines[j] = lines[j], lines[i]
	case 1:
		lines = slices.Delete(lines, i, i+1)
	case 2:
		lines = slices.Insert(lines, i, lines[j])
	case 3:
		lines[i] = strings.TrimSuffix(lines[i], "\n")
	default:
		if lines[i] != "" {
			lines[i] = nearText(source, lines[i])
		}
	}
	return strings.Join(lines, "")
}

func TestReadLedgerAcceptsTextsAlone(t *testing.T) {
	source := rand.New(rand.NewSource(133))
	accepted, rejected := 0, 0
	for range 20000 {
		l, _ := impl.Posted(nil, randomBatch(source))
		text := ledgerText(l)
		for range source.Intn(3) {
			text = nearLines(source, text)
		}
		want, wantOk := ledgerOf(text)
		got, ok := impl.ReadLedger(text)
		if !slices.Equal(got, want) || ok != wantOk {
			t.Fatalf("ReadLedger(%q) = %+v, %v, not %+v, %v", text, got, ok, want, wantOk)
		}
		if !ok {
			rejected++
			continue
		}
		accepted++
		if again := impl.LedgerText(got); again != text {
			t.Fatalf("ReadLedger(%q) is written as %q", text, again)
		}
	}
	if accepted < 1000 || rejected < 1000 {
		t.Errorf("%d texts were accepted and %d rejected", accepted, rejected)
	}
}

// amountIn writes an amount of a currency, with the period by its decimal places.
func amountIn(cur, n int64) string {
	places := []int{2, 2, 0, 2, 3, 2}[cur]
	if n < -most || n > most {
		return ""
	}
	sign := ""
	if n < 0 {
		sign, n = "-", -n
	}
	digits := fmt.Sprintf("%0*d", places+1, n)
	if places > 0 {
		digits = digits[:len(digits)-places] + "." + digits[len(digits)-places:]
	}
	return sign + digits
}

// orderText adds up the Items and the Parts of a valid order.
func orderText(o impl.Order) string {
	var value, shipped, refunded, price, open int64
	for _, i := range o.Items {
		value += i.Price * i.Qty
		shipped += i.Price * i.Shipped
		refunded += i.Price * i.Refunded
	}
	for _, p := range partsIn(&o) {
		price += p.P - p.PaidP
		open += p.P + p.I + p.F - p.PaidP - p.PaidI - p.PaidF
	}
	texts := []string{fmt.Sprint(o.Id), codes[o.Cur]}
	for _, n := range []int64{value, shipped, refunded, open, value - shipped + price} {
		texts = append(texts, amountIn(o.Cur, n))
	}
	return strings.Join(texts, " ")
}

// orderIn returns the order 1 after commands that are all accepted.
func orderIn(t *testing.T, texts ...string) impl.Order {
	t.Helper()
	list := commandsOf(t, texts)
	worldOf(t, list)
	o, ok := impl.OrderIn(list, 1)
	if !ok {
		t.Fatal("there is no order 1:", texts)
	}
	return o
}

func TestOrderText(t *testing.T) {
	in := func(cur int64, texts ...string) impl.Order {
		o := orderIn(t, shipped2(texts...)...)
		o.Cur = cur
		return o
	}
	last := newOrder()
	last.Id, last.Items = 999, []impl.Item{{Qty: 1, Price: 5}}
	for _, r := range []struct {
		name string
		o    impl.Order
		want string
	}{
		{"nothing shipped", newOrder(), "1 EUR 35.01 0.00 0.00 0.00 35.01"},
		{"the last id and a small value", last, "999 EUR 0.05 0.00 0.00 0.00 0.05"},
		{"shipped", in(0), "1 EUR 35.01 20.00 0.00 20.40 35.01"},
		{"in USD", in(1), "1 USD 35.01 20.00 0.00 20.40 35.01"},
		{"in JPY", in(2), "1 JPY 3501 2000 0 2040 3501"},
		{"in GBP", in(3), "1 GBP 35.01 20.00 0.00 20.40 35.01"},
		{"in KWD", in(4), "1 KWD 3.501 2.000 0.000 2.040 3.501"},
		{"in CHF", in(5), "1 CHF 35.01 20.00 0.00 20.40 35.01"},
		{"two plans", in(0, "ship 1 1 1"), "1 EUR 35.01 25.01 0.00 25.51 35.01"},
		{"three plans", in(0, "ship 1 1 1", "ship 1 0 1"), "1 EUR 35.01 35.01 0.00 35.71 35.01"},
		{"interest paid alone", in(0, "pay 1 0 20"), "1 EUR 35.01 20.00 0.00 20.20 35.01"},
		{"paid in part", in(0, "pay 1 0 500"), "1 EUR 35.01 20.00 0.00 15.40 30.21"},
		{"paid", in(0, "pay 1 0 2040"), "1 EUR 35.01 20.00 0.00 0.00 15.01"},
		{"paid too much", in(0, "pay 1 0 9999"), "1 EUR 35.01 20.00 0.00 0.00 15.01"},
		{"late once", in(0, "day 40"), "1 EUR 35.01 20.00 0.00 25.40 35.01"},
		{"late twice", in(0, "day 40", "day 90"), "1 EUR 35.01 20.00 0.00 30.40 35.01"},
		{"late, and a part of the fee paid", in(0, "day 40", "pay 1 0 300"), "1 EUR 35.01 20.00 0.00 22.40 35.01"},
		{"refunded", in(0, "refund 1 0 1"), "1 EUR 35.01 20.00 10.00 10.40 25.01"},
		{"paid and refunded", in(0, "pay 1 0 1520", "refund 1 0 1"), "1 EUR 35.01 20.00 10.00 0.00 15.01"},
		{"all refunded", in(0, "refund 1 0 2"), "1 EUR 35.01 20.00 20.00 0.40 15.01"},
		{"disputed", in(0, "dispute 1 300"), "1 EUR 35.01 20.00 0.00 20.40 35.01"},
		{"dispute rejected", in(0, "dispute 1 300", "rule 1 0"), "1 EUR 35.01 20.00 0.00 20.40 35.01"},
		{"taken", in(0, "dispute 1 300", "rule 1 1"), "1 EUR 35.01 20.00 0.00 17.40 32.01"},
		{"all taken", in(0, "dispute 1 2000", "rule 1 1"), "1 EUR 35.01 20.00 0.00 0.40 15.01"},
		{"settled", in(0, "payoff 1"), "1 EUR 35.01 20.00 0.00 0.00 15.01"},
		{"all shipped and settled, in JPY", in(2, "ship 1 0 1", "ship 1 1 1", "day 40", "payoff 1"), "1 JPY 3501 3501 0 0 0"},
		{"all together", mixedOrder(), "9 KWD 2.180 1.340 0.200 0.498 1.315"},
	} {
		if s := impl.OrderText(r.o); s != r.want {
			t.Errorf("%s: %q, not %q", r.name, s, r.want)
		}
		if s := orderText(r.o); s != r.want {
			t.Errorf("%s: the test adds up %q, not %q", r.name, s, r.want)
		}
	}
}

// TestOrderTextGreat has unpaid sums up to the greatest amount, and beyond it: AmountText of these is empty.
func TestOrderTextGreat(t *testing.T) {
	o := newOrder()
	o.Items[0].Shipped = 1
	o.Plans = []impl.Plan{{Parts: []impl.Part{{Due: 50, P: 1000, I: most - 1000}}}}
	if s := impl.OrderText(o); s != "1 EUR 35.01 10.00 0.00 10000000000.00 35.01" {
		t.Errorf("MaxMoney is unpaid: %q", s)
	}
	o.Plans[0].Parts[0].F = 1
	if s := impl.OrderText(o); s != "1 EUR 35.01 10.00 0.00  35.01" {
		t.Errorf("more than MaxMoney is unpaid: %q", s)
	}
	o.Plans[0].Parts[0].PaidI = 1
	if s := impl.OrderText(o); s != "1 EUR 35.01 10.00 0.00 10000000000.00 35.01" {
		t.Errorf("MaxMoney is unpaid of more: %q", s)
	}
	if s := impl.OrderText(greatOrder()); s != "999 CHF 80000000.00 80000000.00 0.00  80000000.00" {
		t.Errorf("the greatest order: %q", s)
	}
}

func TestOrderTextRejects(t *testing.T) {
	for i, o := range invalidOrders() {
		if s := impl.OrderText(o); s != "" {
			t.Errorf("the invalid order %d: %q", i, s)
		}
	}
	for _, id := range append([]int64{-1, 0, 1000}, extremes...) {
		o := newOrder()
		o.Id = id
		if s := impl.OrderText(o); s != "" {
			t.Errorf("the id %d: %q", id, s)
		}
	}
	for _, cur := range append([]int64{-1, 6}, extremes...) {
		o := newOrder()
		o.Cur = cur
		if s := impl.OrderText(o); s != "" {
			t.Errorf("the currency %d: %q", cur, s)
		}
	}
}

func TestOrderTextsOfRandomOrders(t *testing.T) {
	source := rand.New(rand.NewSource(134))
	for range 3000 {
		o := randomOrder(source)
		o.Id, o.Cur = 1+source.Int63n(999), source.Int63n(6)
		if s, want := impl.OrderText(o), orderText(o); s != want {
			t.Fatalf("%+v: %q, not %q", o, s, want)
		}
	}
}

// statementIn writes the statement of a consumer of a world.
func statementIn(w impl.World, consumer int64) string {
	i := slices.IndexFunc(w.Consumers, func(c impl.Consumer) bool { return c.Id == consumer })
	if i < 0 {
		return "none\n"
	}
	text := ""
	for _, o := range w.Orders {
		if o.Consumer == consumer {
			text += orderText(o) + "\n"
		}
	}
	return text + "exposure " + amountIn(0, exposureIn(w, consumer)) + " limit " + amountIn(0, w.Consumers[i].Limit) + "\n"
}

func TestStatement(t *testing.T) {
	const no = "none\n"
	for _, r := range []struct {
		name     string
		consumer int64
		texts    []string
		want     string
	}{
		{"the example", 7, []string{"consumer 7 500000", "merchant 3 1000 5000", "order 1 7 3 0 1 0 3x1000", "ship 1 0 2", "pay 1 0 500", "rate 2 0 1 160", "order 2 7 3 2 1 0 1x1600"}, "1 EUR 30.00 20.00 0.00 15.00 25.00\n2 JPY 1600 0 0 0 1600\nexposure 25.10 limit 5000.00\n"},
		{"no commands", 7, nil, no},
		{"no such consumer", 8, shipped2(), no},
		{"no such consumer, but such a merchant", 3, shipped2(), no},
		{"no such consumer, but such an order", 1, shipped2(), no},
		{"no order", 7, shop(), "exposure 0.00 limit 1000.00\n"},
		{"no order and no limit", 7, []string{"consumer 7 0"}, "exposure 0.00 limit 0.00\n"},
		{"the greatest limit", 7, []string{"consumer 7 1000000000000"}, "exposure 0.00 limit 10000000000.00\n"},
		{"a small limit", 7, []string{"consumer 7 5"}, "exposure 0.00 limit 0.05\n"},
		{"an order of another consumer", 8, shipped2("consumer 8 250"), "exposure 0.00 limit 2.50\n"},
		{"an order beside that of another consumer", 7, shipped2("consumer 8 250", "order 2 8 3 0 1 0 1x5"), "1 EUR 35.01 20.00 0.00 20.40 35.01\nexposure 35.01 limit 1000.00\n"},
		{"that of another consumer", 8, shipped2("consumer 8 250", "order 2 8 3 0 1 0 1x5"), "2 EUR 0.05 0.00 0.00 0.00 0.05\nexposure 0.05 limit 2.50\n"},
		{"an order by turns", 8, shipped2("consumer 8 250", "order 2 8 3 0 1 0 1x5", "order 3 7 3 0 1 0 1x6", "order 4 8 3 0 1 0 1x7"), "2 EUR 0.05 0.00 0.00 0.00 0.05\n4 EUR 0.07 0.00 0.00 0.00 0.07\nexposure 0.12 limit 2.50\n"},
		{"orders as they were placed", 7, shop("order 9 7 3 0 1 0 1x5", "order 10 7 3 0 1 0 1x6", "order 2 7 3 0 1 0 1x7"), "9 EUR 0.05 0.00 0.00 0.00 0.05\n10 EUR 0.06 0.00 0.00 0.00 0.06\n2 EUR 0.07 0.00 0.00 0.00 0.07\nexposure 0.18 limit 1000.00\n"},
		{"each currency", 7, shop("rate 1 0 9 10", "rate 2 0 1 160", "rate 3 0 6 5", "rate 4 0 1 3", "rate 5 0 1 1", "order 6 7 3 5 1 0 1x1000", "order 5 7 3 4 1 0 1x1000", "order 4 7 3 3 1 0 1x1000", "order 3 7 3 2 1 0 1x1000", "order 2 7 3 1 1 0 1x1000", "order 1 7 3 0 1 0 1x1000"),
			"6 CHF 10.00 0.00 0.00 0.00 10.00\n5 KWD 1.000 0.000 0.000 0.000 1.000\n4 GBP 10.00 0.00 0.00 0.00 10.00\n3 JPY 1000 0 0 0 1000\n2 USD 10.00 0.00 0.00 0.00 10.00\n1 EUR 10.00 0.00 0.00 0.00 10.00\nexposure 44.39 limit 1000.00\n"},
		{"rejected commands", 7, shipped2("consumer 7 1", "order 1 7 3 0 1 0 1x5", "order 2 7 3 0 1 0 1x100000", "order 3 8 3 0 1 0 1x5", "order 4 7 4 0 1 0 1x5", "order 5 7 3 1 1 0 1x5", "ship 1 0 2", "day 0", "pay 1 1 500", "refund 1 1 1"), "1 EUR 35.01 20.00 0.00 20.40 35.01\nexposure 35.01 limit 1000.00\n"},
		{"an order that is paid off", 7, shipped2("ship 1 0 1", "ship 1 1 1", "payoff 1"), "1 EUR 35.01 35.01 0.00 0.00 0.00\nexposure 0.00 limit 1000.00\n"},
	} {
		list := commandsOf(t, r.texts)
		if s := impl.Statement(list, r.consumer); s != r.want {
			t.Errorf("%s: %q, not %q", r.name, s, r.want)
		}
	}
	list := withKeys(t, "a consumer 7 500", "b merchant 3 0 0", "c order 1 7 3 0 1 0 2x100", "d ship 1 0 1", "d ship 1 0 1", "c order 2 7 3 0 1 0 1x5", "a consumer 8 5", "a consumer 7 500")
	list = append(list, impl.Cmd{}, impl.Cmd{Kind: impl.CmConsumer, Key: "K", A: 9})
	if s := impl.Statement(list, 7); s != "1 EUR 2.00 1.00 0.00 1.00 2.00\nexposure 2.00 limit 5.00\n" {
		t.Errorf("repeated commands: %q", s)
	}
	if impl.Statement(list, 8) != no || impl.Statement(list, 9) != no {
		t.Error("a consumer of a repeated command or of one that is not valid")
	}
	for _, id := range append([]int64{-1, 0, 1000, 7 + 1<<32}, extremes...) {
		if s := impl.Statement(list, id); s != no {
			t.Errorf("the id %d: %q", id, s)
		}
	}
}

func TestStatementLengths(t *testing.T) {
	const want = "1 EUR 35.01 20.00 0.00 15.40 30.21\nexposure 30.21 limit 1000.00\n"
	for _, n := range []int{5, 59, 60} {
		if s := impl.Statement(filled(t, n), 7); s != want {
			t.Errorf("%d commands: %q", n, s)
		}
	}
	for _, n := range []int{61, 62, 1000} {
		if s := impl.Statement(filled(t, n), 7); s != "none\n" {
			t.Errorf("%d commands: %q", n, s)
		}
	}
	list := filled(t, 60)
	for name, l := range map[string][]impl.Cmd{
		"one more that is repeated":  append(slices.Clone(list), list[0]),
		"one more that is not valid": append(slices.Clone(list), impl.Cmd{}),
		"one more before the others": append([]impl.Cmd{{}}, list...),
	} {
		if s := impl.Statement(l, 7); s != "none\n" {
			t.Errorf("%s: %q", name, s)
		}
	}
	full := commandsOf(t, fullShop())
	if s := impl.Statement(full, 7); strings.Count(s, "\n") != impl.MaxPeople+1 || s != statementIn(worldOf(t, full), 7) {
		t.Errorf("MaxPeople orders: %q", s)
	}
}

func TestStatementsAfterEachCommand(t *testing.T) {
	source := rand.New(rand.NewSource(135))
	lists := [][]impl.Cmd{commandsOf(t, everyKind())}
	for range 10 {
		lists = append(lists, randomList(t, source))
	}
	lengths := map[int]int{}
	for _, list := range lists {
		for n := range len(list) + 1 {
			w, _ := impl.Play(list[:n])
			for _, id := range []int64{0, 1, 2, 3, 7, 8} {
				s, want := impl.Statement(list[:n], id), statementIn(w, id)
				if s != want {
					t.Fatalf("the consumer %d after %d commands: %q, not %q", id, n, s, want)
				}
				lengths[strings.Count(s, "\n")]++
			}
		}
	}
	if lengths[1] < 10 || lengths[2] < 10 || lengths[3] < 10 || lengths[4] < 10 {
		t.Error("the lengths of the statements:", lengths)
	}
}

func TestStatementsOfAnyArguments(t *testing.T) {
	source := rand.New(rand.NewSource(136))
	number := func() int64 { return anyNumber(source) }
	for range 20000 {
		p := impl.Post{A: impl.Acct{Class: number(), Id: number(), Sub: number()}, Cur: number(), N: number()}
		s := impl.PostText(p)
		if q, ok := impl.ReadPost(s); ok != (s != "") || ok && q != p {
			t.Fatalf("%+v is written as %q and read as %+v, %v", p, s, q, ok)
		}
		if impl.LedgerText([]impl.Post{p, p}) != "" {
			t.Fatalf("twice %+v is no ledger", p)
		}
		text := anyText(source)
		if _, ok := postOf(text); !ok {
			checkNoPost(t, text)
			if text != "" {
				checkNoLedger(t, text)
			}
		}
	}
	numbers := append([]int64{0, 1, 2, 3, 7, 100}, extremes...)
	for range 3000 {
		var o impl.Order
		makeStrange(source, reflect.ValueOf(&o).Elem(), numbers, 3)
		if s := impl.OrderText(o); (s != "") != impl.OrderOk(o) {
			t.Fatalf("%+v: %q", o, s)
		}
		var list []impl.Cmd
		makeStrange(source, reflect.ValueOf(&list).Elem(), numbers, 3)
		w, _ := impl.Play(list)
		if s := impl.Statement(list, numbers[source.Intn(len(numbers))]); len(w.Consumers) == 0 && s != "none\n" {
			t.Fatalf("%+v: %q", list, s)
		}
	}
}

func TestStatementsLeaveTheirArguments(t *testing.T) {
	spare := impl.Post{A: impl.Acct{Class: -77}, Cur: -78, N: -79}
	full := append(consumers(6), spare, spare)
	fullBefore := slices.Clone(full)
	ledger := full[:6]
	text := impl.LedgerText(ledger)
	first, firstOk := impl.ReadLedger(text)
	impl.LedgerText(full)
	impl.ReadLedger(text + "x")
	second, secondOk := impl.ReadLedger(text)
	if !slices.Equal(full, fullBefore) || impl.LedgerText(ledger) != text {
		t.Error("the ledger changed:", full)
	}
	if !firstOk || !secondOk || !slices.Equal(first, second) || !slices.Equal(first, ledger) {
		t.Error("the text of a ledger is read as", first, "and", second)
	}
	checkApart(t, full, first, second)
	orders := append(invalidOrders(), newOrder(), mixedOrder(), greatOrder())
	for i, plain := range orders {
		o := withSpare(reflect.ValueOf(plain)).Interface().(impl.Order)
		before := atFullLength(reflect.ValueOf(o)).Interface()
		s, again := impl.OrderText(o), impl.OrderText(o)
		if after := atFullLength(reflect.ValueOf(o)).Interface(); !reflect.DeepEqual(before, after) {
			t.Errorf("the order %d changed from\n%+v to\n%+v", i, before, after)
		}
		if s != again || s != impl.OrderText(plain) {
			t.Errorf("the order %d is written as %q, %q and %q", i, s, again, impl.OrderText(plain))
		}
	}
	for range 3 {
		for _, text := range []string{"1.7.1 KWD -12", "1.7.1 KWD 05"} {
			p, ok := impl.ReadPost(text)
			impl.ReadPost("2.8.2 USD 3")
			if q, qOk := impl.ReadPost(text); q != p || qOk != ok {
				t.Errorf("%q is read as %+v and %+v", text, p, q)
			}
			if impl.PostText(p) != impl.PostText(p) {
				t.Errorf("%+v has two texts", p)
			}
		}
	}
}

func TestStatementLeavesItsList(t *testing.T) {
	list, full, items := spareList(t)
	_, fullBefore, itemsBefore := spareList(t)
	first, other := impl.Statement(list, 7), impl.Statement(list, 8)
	impl.Statement(append(slices.Clone(list), make([]impl.Cmd, 60)...), 7)
	if s := impl.Statement(list, 7); s != first || strings.Count(s, "\n") != 3 || other != "none\n" {
		t.Errorf("equal lists lead to %q and %q, and for no consumer to %q", first, s, other)
	}
	if !reflect.DeepEqual(full, fullBefore) || !reflect.DeepEqual(items, itemsBefore) {
		t.Error("an argument changed:", full, items)
	}
}
