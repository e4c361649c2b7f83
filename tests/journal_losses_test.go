package tests

import (
	"fmt"
	"math/rand"
	"reflect"
	"slices"
	"strings"
	"testing"

	"loop.example/g00714/impl"
)

// history is a journal with the commands that were added to it, of which the first ones, as many as `safe`, were there at the last synchronization.
type history struct {
	d     impl.Disk
	added []impl.Cmd
	safe  int
}

// inJournal returns how many commands of a history a disk contains, which are to be its first ones, and at least those that are safe.
func inJournal(t *testing.T, name string, d impl.Disk, h history) int {
	t.Helper()
	list, code := impl.StoreView(d)
	if code != impl.StOk || len(list) < h.safe || len(list) > len(h.added) || !slices.EqualFunc(list, h.added[:len(list)], sameCmd) {
		t.Fatalf("%s: %s contains %v, %d, of %v, of which %d are safe", name, brief(d), list, code, h.added, h.safe)
	}
	want, wantAnswers := impl.Play(list)
	w, answers, code := impl.Recovered(d)
	if code != impl.StOk || !sameWorld(w, want) || !slices.Equal(answers, wantAnswers) || impl.Audited(w) != impl.AuOk {
		t.Fatalf("%s: recovered are %v, %v, %d", name, w, answers, code)
	}
	return len(list)
}

// checkReady expects that a command can be added at once.
func checkReady(t *testing.T, name string, d impl.Disk, k int) {
	t.Helper()
	e, code := impl.StoreDo(d, impl.Act{Kind: impl.AcAdd, C: commandWithKey(t, "ready payoff 9"), Power: -1})
	if list, _ := impl.StoreView(e); code != impl.StOk || len(list) != k+1 {
		t.Fatalf("%s: no command can be added to %s: %d", name, brief(d), code)
	}
}

// losses calls back with each state of a disk after a loss of power, each of them once.
func losses(d impl.Disk, visit func(keep []int64, torn int64, after impl.Disk)) {
	seen := map[string]bool{}
	for _, keep := range subsets(len(d.Ops)) {
		for _, torn := range tornUpTo(d, keep) {
			after, _ := crashedTo(d, keep, torn)
			if key := fmt.Sprintf("%q", after.Live); !seen[key] {
				seen[key] = true
				visit(keep, torn, after)
			}
		}
	}
}

// checkLosses loses the power now, and then again after each step of the opening that follows.
func checkLosses(t *testing.T, h history, opened map[string]bool) {
	t.Helper()
	losses(h.d, func(keep []int64, torn int64, after impl.Disk) {
		name := fmt.Sprintf("keep %v, torn %d", keep, torn)
		e, ok := impl.Crash(h.d, keep, torn)
		if !ok || !sameDisk(e, after) {
			t.Fatalf("%s: Crash returns %s, %v", name, brief(e), ok)
		}
		k := inJournal(t, name, e, h)
		now := history{e, h.added[:k], k}
		act := impl.Act{Kind: impl.AcCrash, Keep: keep, Torn: torn, Power: -1}
		e, code := impl.StoreDo(h.d, act)
		if code != impl.StOk || inJournal(t, name, e, now) != k {
			t.Fatalf("%s: AcCrash returns %s, %d", name, brief(e), code)
		}
		checkReady(t, name, e, k)
		if key := fmt.Sprintf("%q", after.Live); !opened[key] {
			opened[key] = true
			checkOpening(t, name, h.d, act, now)
		}
	})
}

// checkOpening loses the power after each step of the opening of a journal, which leaves exactly the commands of the history.
func checkOpening(t *testing.T, name string, d impl.Disk, act impl.Act, now history) {
	t.Helper()
	for act.Power = 0; ; act.Power++ {
		part, code := impl.StoreDo(d, act)
		name := fmt.Sprintf("%s, %d steps of the opening", name, act.Power)
		if code != impl.StOk && code != impl.StPower || act.Power > 5 {
			t.Fatalf("%s: %s, %d", name, brief(part), code)
		}
		losses(part, func(keep []int64, torn int64, after impl.Disk) {
			name := fmt.Sprintf("%s, keep %v, torn %d", name, keep, torn)
			inJournal(t, name, after, now)
			e, code := impl.StoreDo(part, impl.Act{Kind: impl.AcCrash, Keep: keep, Torn: torn, Power: -1})
			if code != impl.StOk {
				t.Fatalf("%s: %s, %d", name, brief(e), code)
			}
			inJournal(t, name, e, now)
			checkReady(t, name, e, len(now.added))
		})
		if code == impl.StOk {
			return
		}
	}
}

// add adds a command and returns the history, also if the power did not suffice.
func (h history) add(t *testing.T, c impl.Cmd, sync bool, power int64) history {
	t.Helper()
	d, code := impl.StoreDo(h.d, impl.Act{Kind: impl.AcAdd, C: c, Sync: sync, Power: power})
	if code != impl.StOk && code != impl.StPower {
		t.Fatalf("AcAdd of %v: %d", c, code)
	}
	after := history{d, h.added, h.safe}
	if power != 0 {
		after.added = append(slices.Clone(h.added), c)
	}
	if code == impl.StOk && sync {
		after.safe = len(after.added)
	}
	return after
}

// TestLossOfPower is the promise 12: three commands are added, each with or without synchronization, and the power is lost after each step.
func TestLossOfPower(t *testing.T) {
	list := withKeys(t, "a consumer 7 5", "b day 3", "c payoff 1")
	for _, before := range [][]impl.File{nil, filesOf("log.new", "old")} {
		opened := map[string]bool{}
		made, code := impl.StoreDo(synced(before), impl.Act{Kind: impl.AcNew, Power: -1})
		if code != impl.StOk {
			t.Fatal(code)
		}
		for pattern := range 8 {
			h := history{d: made}
			checkLosses(t, h, opened)
			for i, c := range list {
				sync := pattern>>i&1 == 1
				for power := range int64(3) {
					checkLosses(t, h.add(t, c, sync, power), opened)
				}
				h = h.add(t, c, sync, -1)
			}
			checkLosses(t, h, opened)
		}
		if len(opened) < 100 {
			t.Errorf("%d states are opened", len(opened))
		}
	}
}

// TestLossOfPowerWhileMade loses the power when there is no journal yet, or an empty one.
func TestLossOfPowerWhileMade(t *testing.T) {
	for power := range int64(4) {
		d, code := impl.StoreDo(impl.Disk{}, impl.Act{Kind: impl.AcNew, Power: power})
		if want := map[bool]int64{true: impl.StPower, false: impl.StOk}[power < 2]; code != want {
			t.Errorf("the Power %d: %d", power, code)
		}
		losses(d, func(keep []int64, torn int64, after impl.Disk) {
			e, code := impl.StoreDo(d, impl.Act{Kind: impl.AcCrash, Keep: keep, Torn: torn, Power: -1})
			if power < 2 && len(keep) == 0 {
				if code != impl.StNone || !sameDisk(e, impl.Disk{}) {
					t.Errorf("the Power %d, nothing is kept: %s, %d", power, brief(e), code)
				}
				return
			}
			if code != impl.StOk || !sameDisk(e, journal("")) {
				t.Errorf("the Power %d, %v is kept: %s, %d", power, keep, brief(e), code)
			}
		})
	}
}

// TestLossesAgainAndAgain adds commands of all kinds, loses the power at random, and goes on with what remains.
func TestLossesAgainAndAgain(t *testing.T) {
	source := rand.New(rand.NewSource(123))
	all := commandsOf(t, everyKind())
	codes, lost, kept := map[int64]int{}, 0, 0
	for range 60 {
		d, _ := impl.StoreDo(impl.Disk{}, impl.Act{Kind: impl.AcNew, Power: -1})
		h := history{d: d}
		for range 60 {
			if source.Intn(4) > 0 && len(h.added) < len(all) {
				h = h.add(t, all[len(h.added)], source.Intn(4) == 0, source.Int63n(4)-1)
				inJournal(t, "added", h.d, h)
				continue
			}
			var keep []int64
			for i := range h.d.Ops {
				if source.Intn(6) > 0 {
					keep = append(keep, int64(i))
				}
			}
			d, code := impl.StoreDo(h.d, impl.Act{Kind: impl.AcCrash, Keep: keep, Torn: source.Int63n(60), Power: source.Int63n(6) - 1})
			codes[code]++
			k := inJournal(t, "crashed", d, h)
			lost, kept = lost+len(h.added)-k, kept+k-h.safe
			h = history{d, h.added[:k], k}
			for code != impl.StOk { // until the power suffices
				d, code = impl.StoreDo(h.d, impl.Act{Kind: impl.AcOpen, Power: source.Int63n(6) - 1})
				h.d = d
				inJournal(t, "opened", d, h)
				if source.Intn(2) == 0 && code != impl.StOk {
					d, code = impl.StoreDo(h.d, impl.Act{Kind: impl.AcCrash, Keep: randomKeep(source, len(d.Ops)), Torn: source.Int63n(60), Power: source.Int63n(6) - 1})
					h.d = d
					inJournal(t, "crashed while it is opened", d, h)
				}
			}
		}
	}
	if lost < 100 || kept < 100 || codes[impl.StOk] < 100 || codes[impl.StPower] < 100 || len(codes) != 2 {
		t.Errorf("%d commands are lost, %d are kept, the codes are %v", lost, kept, codes)
	}
}

func randomKeep(source *rand.Rand, n int) []int64 {
	all := subsets(n)
	return all[source.Intn(len(all))]
}

// anyLog is one that is complete, torn, or of any bytes.
func anyLog(source *rand.Rand) string {
	texts := entries(days(source.Intn(4)))
	for range source.Intn(3) {
		texts = append(texts, []string{"", "0", "0 ", "0 a day 5", "1 b day 6", "2 c payoff 9", "x", anyText(source)}[source.Intn(8)])
	}
	log := logOf(texts...)
	switch source.Intn(4) {
	case 0:
		log = log[:source.Intn(len(log)+1)]
	case 1:
		log += anyText(source)
	case 2:
		if len(log) > 0 {
			bytes := []byte(log)
			bytes[source.Intn(len(bytes))] ^= byte(1 << source.Intn(8))
			log = string(bytes)
		}
	}
	return log
}

// countedIn is the text of what counts of a log.
func countedIn(log string) ([]impl.Cmd, int) {
	texts, _ := framesIn(log)
	var list []impl.Cmd
	end := 0
	for i, text := range texts {
		number, rest, _ := strings.Cut(text, " ")
		c, ok := commandOf(rest)
		if number != fmt.Sprint(i) || !strings.HasPrefix(text, number+" ") || !ok || i == 60 {
			break
		}
		list, end = append(list, c), end+8+len(text)
	}
	return list, end
}

// stepping performs an operation, or Sync if it has no Kind, as long as there is power and no other code.
func stepping(d *impl.Disk, power *int64, code *int64, op impl.DOp) {
	if *code != impl.StOk {
		return
	}
	if *power == 0 {
		*code = impl.StPower
		return
	}
	*power--
	if op.Kind == 0 {
		*d = synced(d.Live)
		return
	}
	next, doCode := doneBy(*d, op)
	if doCode != impl.DkOk {
		*code = impl.StFull
		return
	}
	*d = next
}

func contentsOf(d impl.Disk, name string) (string, bool) {
	for _, f := range d.Live {
		if f.Name == name {
			return f.Data, true
		}
	}
	return "", false
}

// storeDone is the text of StoreDo.
func storeDone(d impl.Disk, a impl.Act) (impl.Disk, int64) {
	if !validDisk(d) {
		return impl.Disk{}, impl.StDisk
	}
	if a.Kind < impl.AcNew || a.Kind > impl.AcCrash {
		return d, impl.StForm
	}
	if a.Kind == impl.AcCrash {
		after, ok := crashedTo(d, a.Keep, a.Torn)
		if !ok {
			return d, impl.StForm
		}
		d = after
	}
	before, power, code := d, a.Power, int64(impl.StOk)
	log, there := contentsOf(d, "log")
	list, end := countedIn(log)
	switch {
	case a.Kind == impl.AcNew && there:
		return d, impl.StForm
	case a.Kind == impl.AcNew:
		stepping(&d, &power, &code, appending("log", ""))
		stepping(&d, &power, &code, impl.DOp{})
	case !there:
		return d, impl.StNone
	case a.Kind == impl.AcAdd && !impl.CmdOk(a.C):
		return d, impl.StForm
	case a.Kind == impl.AcAdd && end != len(log):
		return d, impl.StTorn
	case a.Kind == impl.AcAdd && len(list) == 60:
		return d, impl.StFull
	case a.Kind == impl.AcAdd:
		stepping(&d, &power, &code, appending("log", frame(fmt.Sprint(len(list), " ", impl.CmdText(a.C)))))
		if a.Sync {
			stepping(&d, &power, &code, impl.DOp{})
		}
	case end != len(log):
		if _, left := contentsOf(d, "log.new"); left {
			stepping(&d, &power, &code, removing("log.new"))
		}
		stepping(&d, &power, &code, appending("log.new", log[:end]))
		stepping(&d, &power, &code, impl.DOp{})
		stepping(&d, &power, &code, renaming("log.new", "log"))
		stepping(&d, &power, &code, impl.DOp{})
	}
	if code == impl.StFull {
		return before, code
	}
	return d, code
}

// anyJournal is a disk, valid or not, that mostly has a log.
func anyJournal(source *rand.Rand) impl.Disk {
	d := anyDisk(source)
	if source.Intn(4) == 0 {
		return d
	}
	l := []impl.File{{Name: "log", Data: anyLog(source)}}
	if source.Intn(2) == 0 {
		l = append(l, impl.File{Name: "log.new", Data: anyLog(source)})
	}
	d = synced(l)
	switch source.Intn(40) {
	case 0:
		d = synced(append(manyFiles(59-source.Intn(3)), l...))
	case 1:
		l[0].Data += strings.Repeat("d", 199900)
		d = synced(l)
	case 2:
		d = unsynced(l, slices.Repeat([]impl.DOp{renaming("log", "log")}, 197+source.Intn(5))...)
	}
	for range source.Intn(4) {
		next := appending("log", anyLog(source))
		if source.Intn(3) == 0 {
			next = randomOp(source)
		}
		if e, code := doneBy(d, next); code == impl.DkOk {
			d = e
		}
	}
	return d
}

func anyAct(source *rand.Rand, ops int) impl.Act {
	a := impl.Act{Kind: 1 + source.Int63n(4), C: days(3)[source.Intn(3)], Sync: source.Intn(2) == 0, Power: source.Int63n(8) - 1, Torn: source.Int63n(40)}
	if ops < 10 {
		a.Keep = randomKeep(source, ops)
	}
	switch source.Intn(12) {
	case 0:
		a.Kind = anyNumber(source)
	case 1:
		a.C = impl.Cmd{Kind: anyNumber(source), Key: anyText(source), A: anyNumber(source)}
	case 2:
		a.Keep = append(a.Keep, anyNumber(source))
	case 3:
		a.Torn = anyNumber(source)
	case 4:
		a.Power = anyNumber(source)
	}
	return a
}

// TestAnyJournals compares chapter 12 with its text for disks and actions of any kind.
func TestAnyJournals(t *testing.T) {
	source := rand.New(rand.NewSource(124))
	codes := map[int64]int{}
	for range 10000 {
		d := anyJournal(source)
		a := anyAct(source, len(d.Ops))
		want, code := storeDone(d, a)
		checkAct(t, "any journal", d, a, code, want)
		codes[code]++
		checkView(t, d)
	}
	for code := int64(impl.StOk); code <= impl.StTorn; code++ {
		if codes[code] < 50 {
			t.Errorf("the code %d occurs %d times", code, codes[code])
		}
	}
}

func checkView(t *testing.T, d impl.Disk) {
	t.Helper()
	log, there := contentsOf(d, "log")
	want, _ := countedIn(log)
	wantCode := int64(impl.StOk)
	if !there {
		want, wantCode = nil, impl.StNone
	}
	if !validDisk(d) {
		want, wantCode = nil, impl.StDisk
	}
	list, code := impl.StoreView(d)
	if code != wantCode || !slices.EqualFunc(list, want, sameCmd) {
		t.Errorf("StoreView of %s returns %v, %d", brief(d), list, code)
	}
	w, answers, code := impl.Recovered(d)
	if wantWorld, wantAnswers := impl.Play(want); code != wantCode || !sameWorld(w, wantWorld) || !slices.Equal(answers, wantAnswers) {
		t.Errorf("Recovered of %s returns %v, %v, %d", brief(d), w, answers, code)
	}
}

// TestAnyPlays compares StorePlay with StoreDo for each action.
func TestAnyPlays(t *testing.T) {
	source := rand.New(rand.NewSource(125))
	for range 400 {
		first := anyJournal(source)
		var acts []impl.Act
		for range source.Intn(8) {
			acts = append(acts, anyAct(source, source.Intn(4)))
		}
		want, wantCodes := first, []int64{}
		if !validDisk(first) {
			want = impl.Disk{}
		} else {
			for _, a := range acts {
				next, code := storeDone(want, a)
				want, wantCodes = next, append(wantCodes, code)
			}
		}
		if d, codes := impl.StorePlay(first, acts); !sameDisk(d, want) || !slices.Equal(codes, wantCodes) {
			t.Errorf("StorePlay of %s and %s returns %s, %v, not %s, %v", brief(first), brief(acts), brief(d), codes, brief(want), wantCodes)
		}
	}
}

// storesFrom returns all that the functions of chapter 12 return for a disk and an action.
func storesFrom(d impl.Disk, a impl.Act) []any {
	list, code := impl.StoreView(d)
	w, answers, recoveredCode := impl.Recovered(d)
	played, codes := impl.StorePlay(d, []impl.Act{a, a})
	same, none := impl.StorePlay(d, nil)
	results := []any{list, code, w, answers, recoveredCode, played, codes, same, none}
	for kind := int64(0); kind <= impl.AcCrash; kind++ {
		for _, power := range []int64{-1, 0, 2} {
			a.Kind, a.Power = kind, power
			e, code := impl.StoreDo(d, a)
			results = append(results, e, code)
		}
	}
	return results
}

func TestJournalsLeaveTheirArguments(t *testing.T) {
	c := commandWithKey(t, "order order 1 7 3 1 4 999 2x500 1x7")
	whole := logOf(entries(append(commandsOf(t, shop()), c))...)
	for i, original := range []impl.Disk{
		{}, journal(""), journal(whole), journal(whole + "torn"), synced(filesOf("log", whole+"torn", "log.new", "old")),
		unsynced(filesOf("aa", "11", "log", whole), appending("log", "torn"), removing("aa"), appending("bb", "22")), {Live: filesOf("log", whole)},
	} {
		d := withSpare(reflect.ValueOf(original)).Interface().(impl.Disk)
		plain := impl.Act{Kind: impl.AcCrash, C: c, Sync: true, Power: -1, Torn: 2}
		if len(d.Ops) > 0 {
			plain.Keep = []int64{0, 2}
		}
		a := withSpare(reflect.ValueOf(plain)).Interface().(impl.Act)
		diskBefore, actBefore := atFullLength(reflect.ValueOf(d)).Interface(), atFullLength(reflect.ValueOf(a)).Interface()
		first, second := storesFrom(d, a), storesFrom(d, a)
		if !reflect.DeepEqual(atFullLength(reflect.ValueOf(d)).Interface(), diskBefore) || !reflect.DeepEqual(atFullLength(reflect.ValueOf(a)).Interface(), actBefore) {
			t.Errorf("the disk %d or the action changed to\n%s and\n%s", i, brief(d), brief(a))
		}
		if !reflect.DeepEqual(first, second) || !reflect.DeepEqual(first, storesFrom(original, plain)) {
			t.Errorf("the disk %d: equal arguments lead to\n%s and\n%s", i, brief(first), brief(second))
		}
		checkApart(t, slices.Concat([]any{d, a}, first, second)...)
		checkTextsApart(t, []any{d, a}, first...)
		for _, result := range first {
			switch e := result.(type) {
			case impl.Disk:
				spoilDisk(e)
			case []impl.Cmd:
				for k := range e {
					spoilItems(e[k].Items)
					e[k] = impl.Cmd{Kind: -1}
				}
			case []int64:
				for k := range e {
					e[k] = -1
				}
			}
		}
		if third := storesFrom(d, a); !reflect.DeepEqual(third, second) {
			t.Errorf("the disk %d: a result that is written into changes\n%s to\n%s", i, brief(second), brief(third))
		}
	}
}

func spoilItems(l []impl.Item) {
	for i := range l {
		l[i] = impl.Item{Qty: -1}
	}
}

func TestFramesAreApart(t *testing.T) {
	s := frame("abc") + frame("defg")
	first, _ := impl.TakeFrames(s)
	second, _ := impl.TakeFrames(s)
	checkTextsApart(t, s, first, second)
	first[0] = "spoilt"
	if second[0] != "abc" {
		t.Error("two results share memory")
	}
	data := "some data"
	checkTextsApart(t, data, impl.FrameOf(data))
}
