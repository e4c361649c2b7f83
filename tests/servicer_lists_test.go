package tests

import (
	"fmt"
	"math/rand"
	"os"
	"os/exec"
	"path/filepath"
	"reflect"
	"regexp"
	"slices"
	"strings"
	"testing"

	"loop.example/g00714/impl"
)

// withKeys reads commands whose texts have Keys.
func withKeys(t *testing.T, texts ...string) []impl.Cmd {
	t.Helper()
	var list []impl.Cmd
	for _, text := range texts {
		list = append(list, commandWithKey(t, text))
	}
	return list
}

func TestRepeatedKeys(t *testing.T) {
	setup := []string{
		"a consumer 7 100000", "b merchant 3 1000 2000", "c order 1 7 3 0 2 1200 3x1000 1x501", "d ship 1 0 2", "e pay 1 0 2140", "f dispute 1 300", "g rule 1 1",
		"h refund 1 0 1", "i release 3 0 60", "j payout 3 0", "k rate 1 0 1 2", "l ship 1 1 1", "m payoff 1", "n day 40",
	}
	list := withKeys(t, setup...)
	want := worldOf(t, list)
	answers := []impl.Answer{{}, {}, {N: 3501}, {N: 2000}, {N: 100}, {N: 300}, {N: 300}, {N: 1000}, {N: 60}, {N: 200}, {}, {N: 501}, {N: 501}, {}}
	for i, text := range setup {
		key := list[i].Key
		again := []impl.Cmd{commandWithKey(t, text)}
		for _, row := range kindRows() { // each Kind with that Key, whether or not it would be accepted with another one
			c := leastCmd(row)
			c.Key = key
			again = append(again, c)
		}
		again = append(again, withKeys(t, key+" consumer 8 5", key+" day 99", key+" ship 1 0 1", key+" pay 1 0 5", key+" order 2 7 3 0 1 0 1x1", key+" rate 1 0 1 2")...)
		for _, c := range again {
			w, got := impl.Play(append(slices.Clone(list), c, c))
			if !sameWorld(w, want) || !slices.Equal(got, append(slices.Clone(answers), answers[i], answers[i])) {
				t.Errorf("%v after all commands: the answers %v and the world %+v", c, got, w)
			}
			// The same at once, before the other commands.
			w, got = impl.Play(slices.Insert(slices.Clone(list), i+1, c))
			if !sameWorld(w, want) || !slices.Equal(got, slices.Insert(slices.Clone(answers), i+1, answers[i])) {
				t.Errorf("%v at once: the answers %v and the world %+v", c, got, w)
			}
			if applied := impl.Applied(append(slices.Clone(list), c)); !slices.EqualFunc(applied, list, sameCmd) {
				t.Errorf("%v was applied: %v", c, applied)
			}
		}
		invalid := impl.Cmd{Kind: impl.CmDay, Key: key, A: -1}
		w, got := impl.Play(append(slices.Clone(list), invalid, again[0]))
		if !sameWorld(w, want) || got[len(list)] != (impl.Answer{Code: impl.SvForm}) || got[len(list)+1] != answers[i] {
			t.Errorf("%v: the answers %v and the world %+v", invalid, got, w)
		}
	}
}

func TestKeysOfRejectedCommands(t *testing.T) {
	list := withKeys(t, "a consumer 7 100", "b ship 1 0 1", "c merchant 3 0 0", "b order 1 7 3 0 1 0 1x101", "b order 1 7 3 0 1 0 1x100", "b ship 1 0 1", "d ship 1 0 2", "d day 0", "d ship 1 0 1", "d day 50", "ab day 50", "aa pay 1 0 700")
	w, answers := impl.Play(list)
	want := []impl.Answer{{}, {Code: impl.SvId}, {}, {Code: impl.SvLimit}, {N: 100}, {N: 100}, {Code: impl.SvQty}, {Code: impl.SvDay}, {N: 100}, {N: 100}, {N: 1}, {N: 100}}
	if !slices.Equal(answers, want) {
		t.Errorf("%v, not %v", answers, want)
	}
	done := []impl.Done{{Key: "a"}, {Key: "c"}, {Key: "b", Answer: impl.Answer{N: 100}}, {Key: "d", Answer: impl.Answer{N: 100}}, {Key: "ab", Answer: impl.Answer{N: 1}}, {Key: "aa", Answer: impl.Answer{N: 100}}}
	if !slices.Equal(w.Done, done) || w.Day != 50 || len(w.Orders) != 1 || len(w.Orders[0].Plans) != 1 {
		t.Errorf("%+v", w)
	}
	if applied := impl.Applied(list); !slices.EqualFunc(applied, []impl.Cmd{list[0], list[2], list[4], list[8], list[10], list[11]}, sameCmd) {
		t.Error(applied)
	}
}

// TestPlayAtTheEnd uses up the list: what is rejected or repeated counts too.
func TestPlayAtTheEnd(t *testing.T) {
	last := commandWithKey(t, "z day 5")
	list := append(slices.Repeat(withKeys(t, "a day 1", "b day 1", "a day 9"), 19), make([]impl.Cmd, 2)...)
	w, answers := impl.Play(append(list, last))
	if len(answers) != 60 || answers[59] != (impl.Answer{}) || w.Day != 5 || len(w.Done) != 2 || len(impl.Applied(append(list, last))) != 2 {
		t.Error("60 commands:", w, answers)
	}
	list = append(list, last, last)
	if w, answers := impl.Play(list); !sameWorld(w, impl.World{}) || len(answers) != 0 || len(impl.Applied(list)) != 0 {
		t.Error("61 commands:", w, answers)
	}
}

// randomText returns the text of a command whose ids are few, so that it is often accepted.
func randomText(source *rand.Rand) string {
	id := func() int64 { return 1 + source.Int63n(3) }
	money := func() int64 { return []int64{1, 7, 100, 500, 2500, 30000}[source.Intn(6)] + source.Int63n(3) }
	cur := func() int64 { return source.Int63n(3) }
	switch k := source.Intn(28); {
	case k < 2:
		return fmt.Sprint("day ", source.Int63n(300))
	case k < 4:
		return fmt.Sprintf("rate %d %d %d %d", cur(), 3+cur(), 1+source.Int63n(9), 1+source.Int63n(9))
	case k < 6:
		return fmt.Sprintf("rate %d 0 %d %d", 1+source.Int63n(2), 1+source.Int63n(9), 1+source.Int63n(9))
	case k == 6:
		return fmt.Sprintf("consumer %d %d", id(), money())
	case k == 7:
		return fmt.Sprintf("merchant %d %d %d", id(), source.Int63n(10001), source.Int63n(10001))
	case k < 11:
		return fmt.Sprintf("order %d %d %d %d %d %d %dx%d %dx%d", 3*id(), id(), id(), cur(), 1+source.Int63n(4), source.Int63n(10001), 1+source.Int63n(4), money(), 1+source.Int63n(20), 1+source.Int63n(9))
	case k < 15:
		return fmt.Sprintf("ship %d %d %d", id(), source.Int63n(3), 1+source.Int63n(3))
	case k < 18:
		return fmt.Sprintf("pay %d %d %d", id(), cur(), money())
	case k < 20:
		return fmt.Sprintf("refund %d %d %d", id(), source.Int63n(3), 1+source.Int63n(3))
	case k < 22:
		return fmt.Sprintf("dispute %d %d", id(), money())
	case k < 24:
		return fmt.Sprintf("rule %d %d", id(), source.Int63n(2))
	case k == 24:
		return fmt.Sprintf("payout %d %d", id(), cur())
	case k < 27:
		return fmt.Sprintf("release %d %d %d", id(), cur(), money())
	}
	return fmt.Sprint("payoff ", id())
}

// randomList returns MaxCmds commands, some of them not valid, some with a Key that is used before.
func randomList(t *testing.T, source *rand.Rand) []impl.Cmd {
	t.Helper()
	texts := []string{
		"consumer 1 100000", "consumer 2 20000", "merchant 1 1000 2000", "merchant 2 333 0", "rate 1 0 9 10", "rate 0 1 10 9", "rate 2 0 1 7", "rate 0 2 7 1",
		"order 1 1 1 0 3 1200 9x2500 20x70", "order 2 1 2 1 2 0 5x999", "order 3 2 1 2 1 7000 6x9001 9x50", "ship 1 0 2", "ship 2 0 1", "ship 3 0 1",
	}
	for len(texts) < impl.MaxCmds {
		texts = append(texts, randomText(source))
	}
	list := commandsOf(t, texts)
	for i := 14; i < len(list); i++ {
		switch source.Intn(20) {
		case 0:
			list[i].Key = list[source.Intn(i)].Key
		case 1:
			list[i] = list[source.Intn(i)]
		case 2:
			*numberAt(&list[i], source.Intn(6)) = -1
		}
	}
	return list
}

// checkNext checks what the last command of a list does to the world that the other ones lead to.
func checkNext(t *testing.T, list []impl.Cmd, before, after impl.World, answer impl.Answer) {
	t.Helper()
	c := list[len(list)-1]
	isDone := func(d impl.Done) bool { return d.Key == c.Key }
	known := slices.IndexFunc(before.Done, isDone)
	switch {
	case !impl.CmdOk(c):
		if answer != (impl.Answer{Code: impl.SvForm}) {
			t.Errorf("the command %v, which is not valid, is answered with %v", c, answer)
		}
	case known >= 0:
		if answer != before.Done[known].Answer {
			t.Errorf("the repeated command %v is answered with %v, not with %v", c, answer, before.Done[known])
		}
	case answer.Code == impl.SvOk:
		if !slices.Equal(after.Done, append(slices.Clone(before.Done), impl.Done{Key: c.Key, Answer: answer})) {
			t.Errorf("after %v the Done are %v", c, after.Done)
		}
		if merchant := (impl.Acct{Class: impl.ClMerchant, Id: c.A, Sub: 1}); c.Kind == impl.CmPayout && impl.BalanceOf(after.Ledger, merchant, c.B) != 0 {
			t.Errorf("after %v something is payable", c)
		}
		return
	case answer.N != 0:
		t.Errorf("the rejected command %v is answered with %v", c, answer)
	}
	if !sameWorld(before, after) {
		t.Errorf("the command %v, answered with %v, changes the world from\n%+v to\n%+v", c, answer, tidyWorld(before), tidyWorld(after))
	}
}

// TestPromisesOfRandomLists plays lists of commands, each of them after each of its commands.
func TestPromisesOfRandomLists(t *testing.T) {
	source := rand.New(rand.NewSource(81))
	kinds, codes := map[int64]int{}, map[int64]int{}
	for range 150 {
		list := randomList(t, source)
		all, answers := impl.Play(list)
		before := impl.World{}
		for i := range list {
			after, some := impl.Play(list[:i+1])
			if !slices.Equal(some, answers[:i+1]) {
				t.Fatalf("the answers to %d commands are %v, and those to all are %v", i+1, some, answers)
			}
			checkNext(t, list[:i+1], before, after, answers[i])
			checkWorld(t, after)
			codes[answers[i].Code]++
			if len(after.Done) > len(before.Done) {
				kinds[list[i].Kind]++
			}
			before = after
		}
		if !sameWorld(before, all) || t.Failed() {
			t.Fatalf("the commands %v", list)
		}
		checkAppliedAlone(t, list)
	}
	for kind := int64(impl.CmDay); kind <= impl.CmPayoff; kind++ {
		if kinds[kind] < 5 {
			t.Errorf("the Kind %d is accepted %d times", kind, kinds[kind])
		}
	}
	for _, code := range []int64{impl.SvForm, impl.SvDay, impl.SvRate, impl.SvId, impl.SvLimit, impl.SvQty, impl.SvAmount, impl.SvOpen, impl.SvNone} {
		if codes[code] < 5 {
			t.Errorf("the code %d occurs %d times", code, codes[code])
		}
	}
}

// checkAppliedAlone compares Applied with the answers, and the world of these commands with that of all.
func checkAppliedAlone(t *testing.T, list []impl.Cmd) {
	t.Helper()
	all, answers := impl.Play(list)
	var want []impl.Cmd
	for i, c := range list {
		isSame := func(other impl.Cmd) bool { return other.Key == c.Key }
		if answers[i].Code == impl.SvOk && !slices.ContainsFunc(want, isSame) {
			want = append(want, c)
		}
	}
	applied := impl.Applied(list)
	if !slices.EqualFunc(applied, want, sameCmd) {
		t.Errorf("Applied(%v) = %v", list, applied)
	}
	if alone := worldOf(t, applied); !sameWorld(alone, all) {
		t.Errorf("the applied commands of %v lead to another world", list)
	}
}

// memory is that of one list, with the spare capacity behind it.
type memory struct{ start, end uintptr }

// memoriesOf returns the memory of each list in a value, also of those inside of lists.
func memoriesOf(v reflect.Value) []memory {
	var all []memory
	switch v.Kind() {
	case reflect.Struct:
		for i := range v.NumField() {
			all = append(all, memoriesOf(v.Field(i))...)
		}
	case reflect.Slice:
		if v.Cap() > 0 {
			all = append(all, memory{v.Pointer(), v.Pointer() + uintptr(v.Cap())*v.Type().Elem().Size()})
		}
		for i := range v.Len() {
			all = append(all, memoriesOf(v.Index(i))...)
		}
	}
	return all
}

// checkApart checks that no two lists in the values share memory.
func checkApart(t *testing.T, values ...any) {
	t.Helper()
	var all []memory
	for _, v := range values {
		all = append(all, memoriesOf(reflect.ValueOf(v))...)
	}
	for i, a := range all {
		for _, b := range all[:i] {
			if a.start < b.end && b.start < a.end {
				t.Fatalf("two of the %d lists share memory", len(all))
			}
		}
	}
}

// spareList returns commands of all kinds, with spare capacity behind them and behind their Items, and this memory at full length.
func spareList(t *testing.T) ([]impl.Cmd, []impl.Cmd, [][]impl.Item) {
	list := commandsOf(t, shipped2(
		"rate 1 0 1 2", "order 2 7 3 1 3 700 4x10 5x20", "ship 2 0 2", "ship 2 1 2", "ship 1 0 1", "pay 1 1 50", "pay 2 1 5000", "refund 1 0 1", "dispute 1 20", "rule 1 1",
		"payout 3 0", "release 3 0 9", "day 90", "payoff 1", "ship 1 0 9", "rule 2 1", "consumer 7 5", "order 9 7 3 5 1 0 1x1", "order 9 7 3 0 1 0 1000x1000000",
	))
	list = append(list, list[3], impl.Cmd{Kind: 99})
	var items [][]impl.Item
	for i := range list {
		all := append(slices.Clone(list[i].Items), impl.Item{Qty: -1}, impl.Item{Qty: -2})
		items = append(items, all)
		list[i].Items = all[:len(list[i].Items)]
	}
	full := append(list, impl.Cmd{Kind: -3}, impl.Cmd{Kind: -4})
	return full[:len(list)], full, items
}

func TestServicersLeaveTheirArguments(t *testing.T) {
	list, full, items := spareList(t)
	_, fullBefore, itemsBefore := spareList(t)
	first, firstAnswers := impl.Play(list)
	applied := impl.Applied(list)
	impl.Play(append(slices.Clone(list), make([]impl.Cmd, 60)...))
	second, secondAnswers := impl.Play(list)
	again := impl.Applied(list)
	if !reflect.DeepEqual(full, fullBefore) || !reflect.DeepEqual(items, itemsBefore) {
		t.Fatal("an argument changed:", full, items)
	}
	if !sameWorld(first, second) || !slices.Equal(firstAnswers, secondAnswers) || !slices.EqualFunc(applied, again, sameCmd) {
		t.Fatal("equal arguments lead to", first, second)
	}
	if len(first.Orders) != 2 || len(first.Orders[1].Plans) != 2 || len(applied) != 18 {
		t.Fatal("the list is not as it should be:", firstAnswers)
	}
	// The Items of a command that is used twice in the list have memory of their own.
	checkApart(t, list, first, firstAnswers, second, secondAnswers, applied, again)
}

func TestListsOfWorldsAreApart(t *testing.T) {
	source := rand.New(rand.NewSource(82))
	for range 20 {
		list := randomList(t, source)
		for i := range list { // the copies of a command in a list of their own
			list[i].Items = slices.Clone(list[i].Items)
		}
		w, answers := impl.Play(list)
		other, otherAnswers := impl.Play(list)
		checkApart(t, list, w, answers, other, otherAnswers, impl.Applied(list))
	}
}

// TestAppliedCopiesItems gives two commands the same Items, and looks for them in the results.
func TestAppliedCopiesItems(t *testing.T) {
	list := commandsOf(t, shop("order 1 7 3 0 1 0 1x5", "order 2 7 3 0 1 0 1x5"))
	list[3].Items = list[2].Items
	w, _ := impl.Play(list)
	applied := impl.Applied(list)
	checkApart(t, w, applied, list[2])
	w.Orders[0].Items[0].Qty, applied[2].Items[0].Qty = 8, 9
	if w.Orders[1].Items[0].Qty != 1 || applied[3].Items[0].Qty != 1 || list[2].Items[0].Qty != 1 {
		t.Error("shared items:", w, applied, list)
	}
}

// TestLesserLimits runs the tests in testdata/limits on a copy of the program with lesser limits, because no list of MaxCmds commands reaches some of the limits.
func TestLesserLimits(t *testing.T) {
	root := t.TempDir()
	copyFile(t, "../go.mod", filepath.Join(root, "go.mod"), nil)
	sources, _ := filepath.Glob("../impl/*.go")
	limits := map[string]string{"MaxRates": "3", "MaxMoney": "1000000", "MaxBalance": "2000000"}
	for _, path := range sources {
		copyFile(t, path, filepath.Join(root, "impl", filepath.Base(path)), limits)
	}
	if len(limits) != 0 {
		t.Fatal("no constants:", limits)
	}
	copyFile(t, "testdata/limits/limits_test.go", filepath.Join(root, "tests", "limits_test.go"), nil)
	command := exec.Command("go", "test", "-vet=off", "./tests")
	command.Dir = root
	if output, err := command.CombinedOutput(); err != nil {
		t.Errorf("%v\n%s", err, output)
	}
}

// copyFile replaces the values of those constants that the file declares, and takes these out of the map.
func copyFile(t *testing.T, from, to string, constants map[string]string) {
	t.Helper()
	text, err := os.ReadFile(from)
	if err != nil {
		t.Fatal(err)
	}
	result := string(text)
	for name, value := range constants {
		declaration := regexp.MustCompile(`(?m)^(\s*|const )` + name + `\s*=\s*[0-9]+$`)
		if changed := declaration.ReplaceAllString(result, "${1}"+name+" = "+value); changed != result {
			result = changed
			delete(constants, name)
		}
	}
	if err := os.MkdirAll(filepath.Dir(to), 0o755); err != nil {
		t.Fatal(err)
	}
	if err := os.WriteFile(to, []byte(strings.TrimSpace(result)+"\n"), 0o644); err != nil {
		t.Fatal(err)
	}
}
