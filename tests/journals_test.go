package tests

import (
	"encoding/binary"
	"fmt"
	"hash/crc32"
	"math"
	"math/rand"
	"slices"
	"strings"
	"testing"

	"loop.example/g00714/impl"
)

// frame is the text of FrameOf, also for data that is too long.
func frame(data string) string {
	head := binary.BigEndian.AppendUint32(nil, uint32(len(data)))
	return string(binary.LittleEndian.AppendUint32(head, crc32.ChecksumIEEE([]byte(data)))) + data
}

// logOf has a frame for each text.
func logOf(texts ...string) string {
	log := ""
	for _, text := range texts {
		log += frame(text)
	}
	return log
}

// days returns n commands that are all accepted.
func days(n int) []impl.Cmd {
	var list []impl.Cmd
	for i := range int64(n) {
		list = append(list, impl.Cmd{Kind: impl.CmDay, Key: fmt.Sprint("k", i), A: i + 1})
	}
	return list
}

// entries are the texts of the frames of a log of these commands.
func entries(list []impl.Cmd) []string {
	var texts []string
	for i, c := range list {
		texts = append(texts, fmt.Sprint(i, " ", impl.CmdText(c)))
	}
	return texts
}

// journal is a disk with this log alone.
func journal(log string) impl.Disk { return synced(filesOf("log", log)) }

// checkNoStore checks what the functions of chapter 12 return for a disk that is not valid.
func checkNoStore(t *testing.T, name string, d impl.Disk) {
	t.Helper()
	if list, code := impl.StoreView(d); code != impl.StDisk || len(list) != 0 {
		t.Errorf("%s: StoreView returns %v, %d", name, list, code)
	}
	for kind := int64(-1); kind <= 5; kind++ {
		for _, power := range []int64{-1, 0, 9} {
			if e, code := impl.StoreDo(d, impl.Act{Kind: kind, Power: power}); code != impl.StDisk || !sameDisk(e, impl.Disk{}) {
				t.Errorf("%s: StoreDo of the Kind %d returns %s, %d", name, kind, brief(e), code)
			}
		}
	}
	for n := range 2 {
		if e, codes := impl.StorePlay(d, make([]impl.Act, n)); len(codes) != 0 || !sameDisk(e, impl.Disk{}) {
			t.Errorf("%s: StorePlay returns %s, %v", name, brief(e), codes)
		}
	}
	if w, answers, code := impl.Recovered(d); code != impl.StDisk || len(answers) != 0 || !sameWorld(w, impl.World{}) {
		t.Errorf("%s: Recovered returns %v, %v, %d", name, w, answers, code)
	}
}

func TestFrameOf(t *testing.T) {
	data := strings.Repeat("\x00\x01\xfe\xff", 25000)
	for _, s := range []string{"", "a", "abc", "\x00", "\xff", "\x00\x00\x00\x00", strings.Repeat("z", 255), strings.Repeat("z", 256), strings.Repeat("z", 65536), data[1:], data} {
		if got := impl.FrameOf(s); got != frame(s) {
			t.Errorf("the frame of %d bytes is %s", len(s), brief(got))
		}
	}
	for _, n := range []int{100001, 100002, 200000, 1 << 24} {
		if got := impl.FrameOf(strings.Repeat("a", n)); got != "" {
			t.Errorf("the frame of %d bytes is %s", n, brief(got))
		}
	}
	if got := impl.FrameOf("abc"); got != "\x00\x00\x00\x03\xc2\x41\x24\x35abc" {
		t.Errorf("the frame of the example is %q", got)
	}
	if got := impl.FrameOf(""); got != strings.Repeat("\x00", 8) {
		t.Errorf("the frame of nothing is %q", got)
	}
	source := rand.New(rand.NewSource(121))
	for n := range 300 {
		bytes := make([]byte, n)
		source.Read(bytes)
		if got := impl.FrameOf(string(bytes)); got != frame(string(bytes)) {
			t.Errorf("the frame of %q is %q", bytes, got)
		}
	}
}

// framesIn is the text of TakeFrames.
func framesIn(s string) ([]string, int) {
	var list []string
	end := 0
	for len(s)-end >= 8 {
		n := int64(binary.BigEndian.Uint32([]byte(s[end : end+4])))
		if n > 100000 || n > int64(len(s)-end-8) {
			break
		}
		next := end + 8 + int(n)
		data := s[end+8 : next]
		if frame(data) != s[end:next] {
			break
		}
		list, end = append(list, data), next
	}
	return list, end
}

func checkFrames(t *testing.T, name, s string, end int, want ...string) {
	t.Helper()
	list, n := impl.TakeFrames(s)
	if n != int64(end) || !slices.Equal(list, want) {
		t.Errorf("%s: TakeFrames returns %s and %d, not %s and %d", name, brief(list), n, brief(want), end)
	}
	if l, m := framesIn(s); m != end || !slices.Equal(l, want) {
		t.Errorf("%s: the test is wrong: %s and %d", name, brief(l), m)
	}
}

func TestTakeFrames(t *testing.T) {
	abc, long := frame("abc"), strings.Repeat("l", 100000)
	sum := abc[4:8]
	checkFrames(t, "nothing", "", 0)
	checkFrames(t, "a frame", abc, 11, "abc")
	checkFrames(t, "the example", abc+abc+"x", 22, "abc", "abc")
	checkFrames(t, "a frame of nothing", frame(""), 8, "")
	checkFrames(t, "frames of nothing", frame("")+frame("")+abc+frame(""), 35, "", "", "abc", "")
	checkFrames(t, "zeros", strings.Repeat("\x00", 20), 16, "", "")
	checkFrames(t, "the longest frame", frame(long)+abc, 100019, long, "abc")
	checkFrames(t, "a longer frame", frame(long+"l")+abc, 0)
	checkFrames(t, "a longer frame behind another", abc+frame(long+"l")+abc, 11, "abc")
	for n := range 11 {
		checkFrames(t, "a truncated frame", abc[:n], 0)
		checkFrames(t, "a truncated frame behind another", abc+abc[:n], 11, "abc")
	}
	for n := 1; n < 8; n++ {
		checkFrames(t, "a truncated frame of nothing", abc+frame("")[:n], 11, "abc")
	}
	for i := range 8 * len(abc) {
		bytes := []byte(abc)
		bytes[i/8] ^= 1 << (i % 8)
		checkFrames(t, fmt.Sprint("the bit ", i, " is changed"), string(bytes)+abc, 0)
		checkFrames(t, fmt.Sprint("the bit ", i, " of the second frame is changed"), abc+string(bytes)+abc, 11, "abc")
	}
	checkFrames(t, "a checksum in the other order", "\x00\x00\x00\x03\x35\x24\x41\xc2abc", 0)
	checkFrames(t, "a length in the other order", "\x03\x00\x00\x00"+sum+"abc", 0)
	checkFrames(t, "a checksum of 0", "\x00\x00\x00\x03\x00\x00\x00\x00abc", 0)
	checkFrames(t, "the checksum of other data", "\x00\x00\x00\x03"+sum+"abd", 0)
	checkFrames(t, "the checksum of more data", "\x00\x00\x00\x02"+sum+"abc", 0)
	for _, length := range []string{"\x00\x00\x00\x04", "\x00\x00\x01\x03", "\x00\x01\x86\xa0", "\x00\x01\x86\xa1", "\x00\x01\x00\x03", "\x01\x00\x00\x03", "\x7f\xff\xff\xff", "\x80\x00\x00\x00", "\x80\x00\x00\x03", "\xff\xff\xff\xff", "\xff\xff\xff\xfd", "\xff\xff\xff\xf8"} {
		checkFrames(t, fmt.Sprintf("the length %x", length), length+sum+"abc", 0)
		checkFrames(t, fmt.Sprintf("the length %x behind a frame", length), abc+length+sum+"abc", 11, "abc")
		checkFrames(t, fmt.Sprintf("the length %x alone", length), length, 0)
	}
}

func TestTakeRandomFrames(t *testing.T) {
	source := rand.New(rand.NewSource(122))
	for range 3000 {
		s := ""
		for range source.Intn(5) {
			s += frame(anyText(source))
		}
		if len(s) > 0 {
			bytes := []byte(s)
			switch source.Intn(4) {
			case 0:
				bytes[source.Intn(len(bytes))] ^= byte(1 << source.Intn(8))
			case 1:
				bytes = bytes[:source.Intn(len(bytes))]
			case 2:
				bytes = append(bytes, anyText(source)...)
			}
			s = string(bytes)
		}
		want, end := framesIn(s)
		checkFrames(t, "random frames", s, end, want...)
	}
}

// checkLog checks what is read from a log of which `end` bytes count.
func checkLog(t *testing.T, name, log string, want []impl.Cmd, end int) {
	t.Helper()
	d := journal(log)
	if list, code := impl.StoreView(d); code != impl.StOk || !slices.EqualFunc(list, want, sameCmd) {
		t.Errorf("%s: StoreView returns %v, %d, not %v", name, list, code, want)
	}
	wantWorld, wantAnswers := impl.Play(want)
	if w, answers, code := impl.Recovered(d); code != impl.StOk || !slices.Equal(answers, wantAnswers) || !sameWorld(w, wantWorld) {
		t.Errorf("%s: Recovered returns %v, %v, %d", name, w, answers, code)
	}
	c := impl.Cmd{Kind: impl.CmPayoff, Key: "added", A: 7}
	longer := logOf(append(entries(want), fmt.Sprint(len(want), " added payoff 7"))...)
	// After AcOpen, and at once if the log is complete.
	opened := synced(filesOf("log", log[:end]))
	addCode := int64(impl.StOk)
	if len(want) == impl.MaxCmds {
		addCode = impl.StFull
	}
	if end < len(log) {
		checkAct(t, name+": AcAdd", d, impl.Act{Kind: impl.AcAdd, C: c, Power: -1}, impl.StTorn, d)
		checkSteps(t, name, d, impl.Act{Kind: impl.AcOpen}, d, appending("log.new", log[:end]), impl.DOp{}, renaming("log.new", "log"), impl.DOp{})
		checkSteps(t, name, d, impl.Act{Kind: impl.AcCrash}, d, appending("log.new", log[:end]), impl.DOp{}, renaming("log.new", "log"), impl.DOp{})
	} else {
		checkSteps(t, name, d, impl.Act{Kind: impl.AcOpen}, d)
		checkSteps(t, name, d, impl.Act{Kind: impl.AcCrash}, d)
	}
	e, code := impl.StoreDo(opened, impl.Act{Kind: impl.AcAdd, C: c, Power: -1})
	if s, _ := impl.ReadFile(e, "log"); code != addCode || code == impl.StOk && s != longer || code != impl.StOk && !sameDisk(e, opened) {
		t.Errorf("%s: AcAdd leads to %s, %d", name, brief(e), code)
	}
}

func TestLogs(t *testing.T) {
	list := withKeys(t, "a day 5", "b consumer 7 100", "o order 1 7 3 1 4 999 2x500 1x7")
	day := list[:1]
	for _, r := range []struct {
		name  string
		texts []string
		want  []impl.Cmd
	}{
		{"no frames", nil, nil},
		{"a frame", []string{"0 a day 5"}, day},
		{"three frames", []string{"0 a day 5", "1 b consumer 7 100", "2 o order 1 7 3 1 4 999 2x500 1x7"}, list},
		{"a command that is rejected", []string{"0 a day 5", "1 a day 5", "2 b payoff 9"}, withKeys(t, "a day 5", "a day 5", "b payoff 9")},
		{"a first frame with the number 1", []string{"1 a day 5"}, nil},
		{"a number twice", []string{"0 a day 5", "0 b day 6"}, day},
		{"a number too great", []string{"0 a day 5", "2 b day 6", "1 b day 6"}, day},
		{"a number too great by a digit", []string{"0 a day 5", "10 b day 6"}, day},
		{"a number without its end", append(entries(days(10)), "1 b day 6"), days(10)},
		{"a leading zero", []string{"00 a day 5"}, nil},
		{"a leading zero later", []string{"0 a day 5", "01 b day 6"}, day},
		{"a plus", []string{"0 a day 5", "+1 b day 6"}, day},
		{"a minus", []string{"-0 a day 5"}, nil},
		{"a minus later", []string{"0 a day 5", "-1 b day 6"}, day},
		{"a hexadecimal number", []string{"0 a day 5", "0x1 b day 6"}, day},
		{"no number", []string{"a day 5"}, nil},
		{"no number but the space", []string{" a day 5"}, nil},
		{"a space before", []string{" 0 a day 5"}, nil},
		{"no space", []string{"0a day 5"}, nil},
		{"two spaces", []string{"0  a day 5"}, nil},
		{"a tab", []string{"0\ta day 5"}, nil},
		{"a number alone", []string{"0"}, nil},
		{"a number and a space", []string{"0 "}, nil},
		{"no bytes", []string{""}, nil},
		{"no bytes behind a frame", []string{"0 a day 5", ""}, day},
		{"a command that is not valid", []string{"0 a day 100001"}, nil},
		{"a command that is not valid, and others", []string{"0 a day 5", "1 b day -1", "1 b day 6"}, day},
		{"no command", []string{"0 a dy 5"}, nil},
		{"no Key", []string{"0 day 5"}, nil},
		{"a Key that is not valid", []string{"0 A day 5"}, nil},
		{"a text that CmdText would not write", []string{"0 a day 05"}, nil},
		{"a text with a space at the end", []string{"0 a day 5 "}, nil},
		{"a text with a line feed at the end", []string{"0 a day 5\n"}, nil},
		{"a text with two spaces", []string{"0 a day  5"}, nil},
		{"Items that CmdText would not write", []string{"0 o order 1 7 3 1 4 999 02x500"}, nil},
		{"a very long text", []string{"0 a day 5", "1 b day 6" + strings.Repeat(" ", 90000)}, day},
		{"other text", []string{"0 a day 5", "abc"}, day},
	} {
		log, end := logOf(r.texts...), len(logOf(entries(r.want)...))
		checkLog(t, r.name, log, r.want, end)
		if end == len(log) {
			checkLog(t, r.name+", and a zero", log+"\x00", r.want, end)
			checkLog(t, r.name+", and zeros", log+strings.Repeat("\x00", 8), r.want, end)
		} else {
			checkLog(t, r.name+", and what would follow", log+frame(fmt.Sprint(len(r.want), " z day 9")), r.want, end)
		}
	}
}

func TestTornLogs(t *testing.T) {
	list := days(3)
	log := logOf(entries(list)...)
	ends := []int{0, 18, 36, 54}
	for n := range len(log) + 1 {
		k := slices.IndexFunc(ends, func(end int) bool { return end > n })
		if k < 0 {
			k = 4
		}
		checkLog(t, fmt.Sprint("the first ", n, " bytes"), log[:n], list[:k-1], ends[k-1])
	}
	for i := range log {
		bytes := []byte(log)
		bytes[i] ^= 0x20
		checkLog(t, fmt.Sprint("the byte ", i, " is changed"), string(bytes), list[:i/18], ends[i/18])
	}
	checkLog(t, "without the first frame", log[18:], nil, 0)
	checkLog(t, "without the second frame", log[:18]+log[36:], list[:1], 18)
	checkLog(t, "without the first byte", log[1:], nil, 0)
	checkLog(t, "the frames in another order", log[18:36]+log[:18]+log[36:], nil, 0)
	checkLog(t, "a byte between the frames", log[:18]+"x"+log[18:], list[:1], 18)
}

func TestLogsOfManyCommands(t *testing.T) {
	for _, n := range []int{11, 58, 59, 60} {
		log := logOf(entries(days(n))...)
		checkLog(t, fmt.Sprint(n, " commands"), log, days(n), len(log))
	}
	all, more := logOf(entries(days(60))...), entries(days(100))
	checkLog(t, "61 commands", logOf(more[:61]...), days(60), len(all))
	checkLog(t, "100 commands", logOf(more...), days(60), len(all))
	checkLog(t, "60 commands and a byte", all+"x", days(60), len(all))
	checkLog(t, "60 commands and another text", all+frame("abc"), days(60), len(all))
	checkLog(t, "60 commands and one that is not valid", all+frame("60 a day 05"), days(60), len(all))
}

// checkAct expects a code and a disk.
func checkAct(t *testing.T, name string, d impl.Disk, a impl.Act, code int64, want impl.Disk) {
	t.Helper()
	e, got := impl.StoreDo(d, a)
	if got != code || !sameDisk(e, want) {
		t.Errorf("%s: StoreDo of %s to\n%s with %d returns\n%s, %d, not\n%s, %d", name, brief(a), brief(d), a.Power, brief(e), got, brief(want), code)
	}
}

// checkActCode expects that an action ends with a code before its first step.
func checkActCode(t *testing.T, name string, d impl.Disk, a impl.Act, code int64, want impl.Disk) {
	t.Helper()
	for _, power := range []int64{-1, 0, 1, 2, 9, math.MinInt64, math.MaxInt64} {
		a.Power = power
		checkAct(t, name, d, a, code, want)
	}
}

// checkSteps performs an action with each Power; the steps begin with the disk `first`, and an operation without a Kind is Sync.
func checkSteps(t *testing.T, name string, d impl.Disk, a impl.Act, first impl.Disk, steps ...impl.DOp) {
	t.Helper()
	e := first
	for i, op := range steps {
		a.Power = int64(i)
		checkAct(t, fmt.Sprintf("%s, with the Power %d", name, i), d, a, impl.StPower, e)
		if op.Kind == 0 {
			e = synced(e.Live)
			continue
		}
		next, code := doneBy(e, op)
		if code != impl.DkOk {
			t.Fatalf("%s: the step %d, %v, is rejected", name, i, op)
		}
		e = next
	}
	for _, power := range []int64{int64(len(steps)), int64(len(steps)) + 1, math.MaxInt64, -1, -2, math.MinInt64} {
		a.Power = power
		checkAct(t, fmt.Sprintf("%s, with the Power %d", name, power), d, a, impl.StOk, e)
	}
}

func TestAcNew(t *testing.T) {
	sync := impl.DOp{}
	for name, d := range map[string]impl.Disk{
		"the empty disk":        {},
		"other files":           synced(filesOf("a", "1", "lo", "2", "log.new", "3", "logs", "4")),
		"operations":            unsynced(filesOf("a", "1"), appending("b", "2"), removing("a")),
		"a log that was there":  unsynced(filesOf("log", "1"), removing("log")),
		"a log with other name": unsynced(filesOf("log", "1"), renaming("log", "log.old")),
	} {
		checkSteps(t, name, d, impl.Act{Kind: impl.AcNew}, d, appending("log", ""), sync)
		// The fields that are of other kinds do not matter.
		checkSteps(t, name, d, impl.Act{Kind: impl.AcNew, C: impl.Cmd{Kind: 99}, Sync: true, Keep: []int64{9}, Torn: -9}, d, appending("log", ""), sync)
	}
	for name, d := range map[string]impl.Disk{
		"an empty log":             journal(""),
		"a log":                    journal(frame("0 a day 5")),
		"a torn log":               journal("abc"),
		"a log that is not synced": unsynced(nil, appending("log", "")),
		"a log with another name":  unsynced(filesOf("a", "1"), renaming("a", "log")),
		"a log with MaxOps":        unsynced(filesOf("log", ""), slices.Repeat([]impl.DOp{appending("a", "")}, 200)...),
		"a log as one of MaxFiles": synced(append(manyFiles(59), impl.File{Name: "log"})),
	} {
		checkActCode(t, name, d, impl.Act{Kind: impl.AcNew}, impl.StForm, d)
	}
}

func TestAcAdd(t *testing.T) {
	c := commandWithKey(t, "b consumer 7 100")
	sync := impl.DOp{}
	for name, d := range map[string]impl.Disk{
		"a log":           journal(frame("0 a day 5")),
		"other files":     synced(filesOf("a", "1", "log", frame("0 a day 5"), "log.new", "3")),
		"operations":      unsynced(filesOf("a", "1"), appending("log", ""), removing("a"), appending("log", frame("0 a day 5"))),
		"a log that was":  unsynced(filesOf("log", "abc"), removing("log"), appending("log", frame("0 a day 5"))),
		"a renamed log":   unsynced(filesOf("b", frame("0 a day 5"), "log", "abc"), renaming("b", "log")),
		"the same before": journal(frame("0 b consumer 7 100")),
	} {
		added := appending("log", frame("1 b consumer 7 100"))
		checkSteps(t, name, d, impl.Act{Kind: impl.AcAdd, C: c}, d, added)
		checkSteps(t, name, d, impl.Act{Kind: impl.AcAdd, C: c, Sync: true}, d, added, sync)
		checkSteps(t, name, d, impl.Act{Kind: impl.AcAdd, C: c, Keep: []int64{9}, Torn: -9}, d, added)
	}
	for i, c := range commandsOf(t, everyKind()) {
		d := journal(logOf(entries(days(i))...))
		checkSteps(t, "each kind", d, impl.Act{Kind: impl.AcAdd, C: c}, d, appending("log", frame(fmt.Sprint(i, " ", impl.CmdText(c)))))
	}
}

func TestAcAddCodes(t *testing.T) {
	good, bad := commandWithKey(t, "b consumer 7 100"), impl.Cmd{Kind: impl.CmDay, Key: "a", A: -1}
	for name, d := range map[string]impl.Disk{
		"no files":            {},
		"other files":         synced(filesOf("Log", "1", "log.new", "", "logs", "")),
		"a log in Safe alone": unsynced(filesOf("log", ""), removing("log")),
	} {
		for _, c := range []impl.Cmd{good, bad, {}} {
			checkActCode(t, name, d, impl.Act{Kind: impl.AcAdd, C: c}, impl.StNone, d)
		}
	}
	full := logOf(entries(days(60))...)
	for name, d := range map[string]impl.Disk{
		"a log":        journal(frame("0 a day 5")),
		"a torn log":   journal("abc"),
		"a full log":   journal(full),
		"MaxOps":       unsynced(filesOf("log", ""), slices.Repeat([]impl.DOp{appending("log", "")}, 200)...),
		"MaxBytes":     synced(filesOf("a", strings.Repeat("d", 200000), "log", "")),
		"an empty log": journal(""),
	} {
		for _, c := range []impl.Cmd{bad, {}, {Kind: 99, Key: "a"}, {Kind: impl.CmDay, Key: "A", A: 1}, {Kind: impl.CmDay, Key: "a", A: 1, B: 1}} {
			checkActCode(t, name, d, impl.Act{Kind: impl.AcAdd, C: c}, impl.StForm, d)
			checkActCode(t, name, d, impl.Act{Kind: impl.AcAdd, C: c, Sync: true}, impl.StForm, d)
		}
	}
	torn := map[string]impl.Disk{
		"a torn log":                   journal("abc"),
		"a full and torn log":          journal(full + "x"),
		"a log with 61 commands":       journal(full + frame("60 z day 99")),
		"a torn log with MaxOps":       unsynced(filesOf("log", "x"), slices.Repeat([]impl.DOp{appending("log", "")}, 200)...),
		"a torn log with MaxBytes":     synced(filesOf("a", strings.Repeat("d", 199999), "log", "x")),
		"a log with a frame missing":   journal(frame("0 a day 5") + frame("2 b day 6")),
		"a log torn by what is unsafe": unsynced(filesOf("log", ""), appending("log", "x")),
	}
	for name, d := range torn {
		checkActCode(t, name, d, impl.Act{Kind: impl.AcAdd, C: good}, impl.StTorn, d)
	}
	checkActCode(t, "60 commands", journal(full), impl.Act{Kind: impl.AcAdd, C: good}, impl.StFull, journal(full))
	last := journal(logOf(entries(days(59))...))
	checkSteps(t, "59 commands", last, impl.Act{Kind: impl.AcAdd, C: good}, last, appending("log", frame("59 b consumer 7 100")))
}

// TestUnknownKinds expects StForm, whatever the disk and the other fields are.
func TestUnknownKinds(t *testing.T) {
	for _, kind := range append([]int64{0, 5, 6, 9, -2, -3, -4}, extremes...) {
		for _, d := range []impl.Disk{{}, journal(""), journal("torn"), journal(frame("0 a day 5")), unsynced(filesOf("log", ""), appending("log", "x")), fullDisk()} {
			checkActCode(t, "an unknown kind", d, impl.Act{Kind: kind}, impl.StForm, d)
			checkActCode(t, "an unknown kind", d, impl.Act{Kind: kind, C: days(1)[0], Sync: true, Keep: []int64{0}, Torn: 1}, impl.StForm, d)
		}
	}
}

func TestAcOpen(t *testing.T) {
	sync, whole := impl.DOp{}, frame("0 a day 5")
	written := []impl.DOp{appending("log.new", whole), sync, renaming("log.new", "log"), sync}
	for _, r := range []struct {
		name string
		d    impl.Disk
		want []impl.DOp
	}{
		{"an empty log", journal(""), nil},
		{"a complete log", journal(whole), nil},
		{"a complete log and a new one", synced(filesOf("log", whole, "log.new", "1")), nil},
		{"a complete log that is not synced", unsynced(nil, appending("log", ""), appending("log", whole)), nil},
		{"a torn log", journal(whole + "x"), written},
		{"a torn log of which nothing counts", journal("x"), []impl.DOp{appending("log.new", ""), sync, renaming("log.new", "log"), sync}},
		{"a torn log with a new one", synced(filesOf("log", whole+"x", "log.new", "1")), append([]impl.DOp{removing("log.new")}, written...)},
		{"a torn log with an empty new one", synced(filesOf("log", whole+"x", "log.new", "")), append([]impl.DOp{removing("log.new")}, written...)},
		{"a torn log and a new one that was removed", unsynced(filesOf("log", whole+"x", "log.new", "1"), removing("log.new")), written},
		{"a torn log and a new one that is not synced", unsynced(filesOf("log", whole), appending("log", "x"), appending("log.new", whole)), append([]impl.DOp{removing("log.new")}, written...)},
		{"a torn log beside other files", synced(filesOf("a", "1", "log", whole+"x", "log.new.new", "2", "z", "3")), written},
	} {
		checkSteps(t, r.name, r.d, impl.Act{Kind: impl.AcOpen}, r.d, r.want...)
		checkSteps(t, r.name, r.d, impl.Act{Kind: impl.AcOpen, C: impl.Cmd{Kind: 99}, Sync: true, Keep: []int64{99}, Torn: -9}, r.d, r.want...)
	}
	for name, d := range map[string]impl.Disk{
		"no files":            {},
		"other files":         synced(filesOf("a", "1", "log.new", whole)),
		"a log in Safe alone": unsynced(filesOf("log", whole), removing("log")),
		"MaxOps":              fullDisk(),
	} {
		checkActCode(t, name, d, impl.Act{Kind: impl.AcOpen}, impl.StNone, d)
	}
}

func TestAcCrash(t *testing.T) {
	sync, whole, next := impl.DOp{}, frame("0 a day 5"), frame("1 b day 6")
	d := unsynced(filesOf("log", whole), appending("log", next), appending("log", "xyz"), appending("log.new", "old"), renaming("log", "a"))
	written := func(log string) []impl.DOp {
		return []impl.DOp{appending("log.new", log), sync, renaming("log.new", "log"), sync}
	}
	for _, r := range []struct {
		name  string
		keep  []int64
		torn  int64
		first []impl.File
		want  []impl.DOp
	}{
		{"nothing is kept", nil, 0, filesOf("log", whole), nil},
		{"a frame is kept", []int64{0}, 99, filesOf("log", whole+next), nil},
		{"a frame is kept, with torn as long as it", []int64{0}, 17, filesOf("log", whole+next), nil},
		{"a frame is torn", []int64{0}, 16, filesOf("log", whole+next[:16]), written(whole)},
		{"a frame is torn to a byte", []int64{0}, 1, filesOf("log", whole+next[:1]), written(whole)},
		{"a frame is torn to nothing", []int64{0}, 0, filesOf("log", whole), nil},
		{"other bytes are kept", []int64{0, 1}, 99, filesOf("log", whole+next+"xyz"), written(whole + next)},
		{"other bytes are torn", []int64{0, 1}, 1, filesOf("log", whole+next+"x"), written(whole + next)},
		{"other bytes are kept alone", []int64{1}, 99, filesOf("log", whole+"xyz"), written(whole)},
		{"a new log is kept", []int64{1, 2}, 99, filesOf("log", whole+"xyz", "log.new", "old"), append([]impl.DOp{removing("log.new")}, written(whole)...)},
		{"an empty new log is kept", []int64{1, 2}, 0, filesOf("log", whole+"xyz", "log.new", ""), append([]impl.DOp{removing("log.new")}, written(whole)...)},
		{"a new log is kept beside a complete one", []int64{2}, 99, filesOf("log", whole, "log.new", "old"), nil},
	} {
		checkSteps(t, r.name, d, impl.Act{Kind: impl.AcCrash, Keep: r.keep, Torn: r.torn}, synced(r.first), r.want...)
		checkSteps(t, r.name, d, impl.Act{Kind: impl.AcCrash, Keep: r.keep, Torn: r.torn, C: impl.Cmd{Kind: 99}, Sync: true}, synced(r.first), r.want...)
	}
	for _, keep := range [][]int64{{3}, {0, 1, 2, 3}} {
		after, _ := crashedTo(d, keep, 99)
		checkActCode(t, "the log does not remain", d, impl.Act{Kind: impl.AcCrash, Keep: keep, Torn: 99}, impl.StNone, after)
	}
	for _, d := range []impl.Disk{{}, synced(filesOf("a", "1", "log.new", "2")), unsynced(nil, appending("log", whole))} {
		checkActCode(t, "no log", d, impl.Act{Kind: impl.AcCrash}, impl.StNone, synced(d.Safe))
	}
	made := unsynced(nil, appending("log", ""), appending("a", "1"))
	checkSteps(t, "a log that is made is kept", made, impl.Act{Kind: impl.AcCrash, Keep: []int64{0}}, journal(""))
	checkActCode(t, "a log that is made is not kept", made, impl.Act{Kind: impl.AcCrash, Keep: []int64{1}}, impl.StNone, synced(filesOf("a", "")))
	for _, keep := range [][]int64{{4}, {-1}, {0, 0}, {1, 0}, {math.MaxInt64}, {math.MinInt64}} {
		checkActCode(t, "keep", d, impl.Act{Kind: impl.AcCrash, Keep: keep}, impl.StForm, d)
		checkActCode(t, "keep, without a log", synced(filesOf("a", "1")), impl.Act{Kind: impl.AcCrash, Keep: keep}, impl.StForm, synced(filesOf("a", "1")))
	}
	for _, torn := range []int64{-1, math.MinInt64} {
		checkActCode(t, "torn", d, impl.Act{Kind: impl.AcCrash, Keep: []int64{0}, Torn: torn}, impl.StForm, d)
		checkActCode(t, "torn, with nothing kept", d, impl.Act{Kind: impl.AcCrash, Torn: torn}, impl.StForm, d)
	}
}

// TestRejectedSteps expects StFull for steps that Do rejects, and the disk as before all steps.
func TestRejectedSteps(t *testing.T) {
	data, whole := strings.Repeat("d", 200000), frame("0 a day 5")
	c := commandWithKey(t, "b day 6")
	full := fullDisk()
	checkFull(t, "AcNew with MaxOps", full, impl.Act{Kind: impl.AcNew}, 0, full)
	many := synced(manyFiles(60))
	checkFull(t, "AcNew with MaxFiles", many, impl.Act{Kind: impl.AcNew}, 0, many)
	much := synced(filesOf("a", data))
	checkSteps(t, "AcNew with MaxBytes", much, impl.Act{Kind: impl.AcNew}, much, appending("log", ""), impl.DOp{})
	ops := func(n int, log string) impl.Disk {
		return unsynced(filesOf("log", log, "log.new", "old"), slices.Repeat([]impl.DOp{renaming("log", "log")}, n)...)
	}
	for _, sync := range []bool{false, true} {
		add := impl.Act{Kind: impl.AcAdd, C: c, Sync: sync}
		checkFull(t, "AcAdd with MaxOps", ops(200, whole), add, 0, ops(200, whole))
		tight := synced(filesOf("a", data[2*17-1:], "log", whole))
		checkFull(t, "AcAdd with one byte too many", tight, add, 0, tight)
	}
	room := synced(filesOf("a", data[2*17:], "log", whole))
	checkSteps(t, "AcAdd with as many bytes as possible", room, impl.Act{Kind: impl.AcAdd, C: c}, room, appending("log", frame("1 b day 6")))
	checkFull(t, "AcOpen with MaxOps", ops(200, whole+"x"), impl.Act{Kind: impl.AcOpen}, 0, ops(200, whole+"x"))
	checkFull(t, "AcOpen with MaxOps behind the removal", ops(199, whole+"x"), impl.Act{Kind: impl.AcOpen}, 1, ops(199, whole+"x"))
	checkSteps(t, "AcOpen with MaxOps behind the append", ops(198, whole+"x"), impl.Act{Kind: impl.AcOpen}, ops(198, whole+"x"),
		removing("log.new"), appending("log.new", whole), impl.DOp{}, renaming("log.new", "log"), impl.DOp{})
	checkSteps(t, "AcOpen of a complete log with MaxOps", ops(200, whole), impl.Act{Kind: impl.AcOpen}, ops(200, whole))
	for _, r := range []struct {
		name     string
		l        []impl.File
		rejected int // the step that is rejected
	}{
		{"too many files", append(manyFiles(59), impl.File{Name: "log", Data: whole + "x"}), 0},
		{"one byte too many", filesOf("a", data[2*17:], "log", whole+"x"), 0},
		{"one byte too many behind the removal", filesOf("a", data[2*17:], "log", whole+"x", "log.new", "y"), 1},
	} {
		d := synced(r.l)
		checkFull(t, "AcOpen with "+r.name, d, impl.Act{Kind: impl.AcOpen}, r.rejected, d)
		checkFull(t, "AcCrash with "+r.name, d, impl.Act{Kind: impl.AcCrash}, r.rejected, d)
		// With an operation before, which is lost: the disk is that after Crash.
		before := unsynced(r.l, renaming("log", "log"))
		checkFull(t, "AcOpen, unsynced, with "+r.name, before, impl.Act{Kind: impl.AcOpen}, r.rejected, before)
		checkFull(t, "AcCrash, unsynced, with "+r.name, before, impl.Act{Kind: impl.AcCrash}, r.rejected, d)
	}
	fitting := synced(filesOf("a", data[2*17+1:], "log", whole+"x"))
	checkSteps(t, "AcOpen with as many bytes as possible", fitting, impl.Act{Kind: impl.AcOpen}, fitting,
		appending("log.new", whole), impl.DOp{}, renaming("log.new", "log"), impl.DOp{})
	swapped := synced(append(manyFiles(58), filesOf("log", whole+"x", "log.new", "1")...))
	checkSteps(t, "AcOpen with MaxFiles and a new log", swapped, impl.Act{Kind: impl.AcOpen}, swapped,
		removing("log.new"), appending("log.new", whole), impl.DOp{}, renaming("log.new", "log"), impl.DOp{})
}

// checkFull expects that Do rejects a step, for which there is still power.
func checkFull(t *testing.T, name string, d impl.Disk, a impl.Act, rejected int, want impl.Disk) {
	t.Helper()
	if !validDisk(d) {
		t.Fatalf("%s: the test is wrong", name)
	}
	for _, power := range []int64{-1, int64(rejected) + 1, int64(rejected) + 2, math.MinInt64, math.MaxInt64} {
		a.Power = power
		checkAct(t, name, d, a, impl.StFull, want)
	}
	// Without power, the step is not tried.
	a.Power = int64(rejected)
	if e, code := impl.StoreDo(d, a); code != impl.StPower || len(e.Ops) != len(want.Ops)+rejected || !impl.DiskOk(e) {
		t.Errorf("%s: with the Power %d: %s, %d", name, rejected, brief(e), code)
	}
}

func TestJournalExamples(t *testing.T) {
	acts := []impl.Act{{Kind: impl.AcNew, Power: -1}}
	for _, c := range days(3) {
		acts = append(acts, impl.Act{Kind: impl.AcAdd, C: c, Power: -1})
	}
	d, codes := impl.StorePlay(impl.Disk{}, acts)
	if !slices.Equal(codes, make([]int64, 4)) {
		t.Fatal(codes)
	}
	for _, r := range []struct {
		keep []int64
		torn int64
		want int
	}{{[]int64{0, 1}, 99, 2}, {[]int64{1}, 99, 0}, {[]int64{0, 1, 2}, 9, 2}, {[]int64{0, 1, 2}, 99, 3}, {nil, 0, 0}} {
		e, code := impl.StoreDo(d, impl.Act{Kind: impl.AcCrash, Keep: r.keep, Torn: r.torn, Power: -1})
		list, viewCode := impl.StoreView(e)
		if code != impl.StOk || viewCode != impl.StOk || !slices.EqualFunc(list, days(r.want), sameCmd) {
			t.Errorf("%v and %d: %d, %v, %d", r.keep, r.torn, code, list, viewCode)
		}
	}
	if list, code := impl.StoreView(d); code != impl.StOk || !slices.EqualFunc(list, days(3), sameCmd) {
		t.Error("StoreView:", list, code)
	}
	checkAct(t, "AcNew of d", d, impl.Act{Kind: impl.AcNew, Power: -1}, impl.StForm, d)
	checkAct(t, "AcOpen of the zero Disk", impl.Disk{}, impl.Act{Kind: impl.AcOpen, Power: -1}, impl.StNone, impl.Disk{})
	e, codes := impl.StorePlay(d, []impl.Act{{Kind: impl.AcOpen, Power: -1}, {Kind: 9, Power: -1}})
	if !slices.Equal(codes, []int64{impl.StOk, impl.StForm}) || !sameDisk(e, d) {
		t.Error("StorePlay:", codes)
	}
	if w, answers, code := impl.Recovered(impl.Disk{}); code != impl.StNone || len(answers) != 0 || !sameWorld(w, impl.World{}) {
		t.Error("Recovered:", w, answers, code)
	}
}

func TestStoreViewOfOtherFiles(t *testing.T) {
	whole := frame("0 a day 5")
	for _, d := range []impl.Disk{{}, synced(filesOf("Log", whole, "lo", whole, "log.new", whole, "logs", whole)), unsynced(filesOf("log", whole), renaming("log", "log.new"))} {
		if list, code := impl.StoreView(d); code != impl.StNone || len(list) != 0 {
			t.Errorf("StoreView of %s: %v, %d", brief(d), list, code)
		}
		if w, answers, code := impl.Recovered(d); code != impl.StNone || len(answers) != 0 || !sameWorld(w, impl.World{}) {
			t.Errorf("Recovered of %s: %v, %v, %d", brief(d), w, answers, code)
		}
	}
	// The log of Live is read, not that of Safe.
	d := unsynced(filesOf("log", whole, "log.new", ""), appending("log", frame("1 b day 6")))
	if list, code := impl.StoreView(d); code != impl.StOk || !slices.EqualFunc(list, withKeys(t, "a day 5", "b day 6"), sameCmd) {
		t.Error("StoreView of Live:", list, code)
	}
}

func TestRecovered(t *testing.T) {
	list := commandsOf(t, everyKind())
	for n := range len(list) + 1 {
		d := journal(logOf(entries(list[:n])...) + "torn")
		want, wantAnswers := impl.Play(list[:n])
		w, answers, code := impl.Recovered(d)
		if code != impl.StOk || !slices.Equal(answers, wantAnswers) || !sameWorld(w, want) || impl.Audited(w) != impl.AuOk {
			t.Errorf("%d commands: %v, %v, %d", n, w, answers, code)
		}
	}
}

func TestStorePlay(t *testing.T) {
	a, b := commandWithKey(t, "a day 5"), commandWithKey(t, "b day 6")
	first := frame("0 a day 5")
	acts := []impl.Act{
		{Kind: impl.AcAdd, C: a, Power: -1},
		{Kind: impl.AcNew, Power: 1},
		{Kind: impl.AcCrash, Power: -1},
		{Kind: impl.AcNew, Power: -1},
		{Kind: impl.AcAdd, C: a, Sync: true, Power: -1},
		{Kind: impl.AcAdd, C: impl.Cmd{}, Power: -1},
		{Kind: impl.AcAdd, C: b, Power: -1},
		{Kind: impl.AcCrash, Keep: []int64{0}, Torn: 9, Power: 2},
		{Kind: impl.AcAdd, C: b, Power: -1},
		{Kind: 0},
		{Kind: impl.AcOpen, Power: -1},
		{Kind: impl.AcAdd, C: b, Power: 0},
		{Kind: impl.AcAdd, C: b, Power: 1, Sync: true},
	}
	want := []int64{impl.StNone, impl.StPower, impl.StNone, impl.StOk, impl.StOk, impl.StForm, impl.StOk, impl.StPower, impl.StTorn, impl.StForm, impl.StOk, impl.StPower, impl.StPower}
	d, codes := impl.StorePlay(impl.Disk{}, acts)
	if !slices.Equal(codes, want) {
		t.Errorf("the codes %v, not %v", codes, want)
	}
	if !sameDisk(d, unsynced(filesOf("log", first), appending("log", frame("1 b day 6")))) {
		t.Error("the disk", brief(d))
	}
	e := impl.Disk{}
	for i, a := range acts { // the same one by one
		next, code := impl.StoreDo(e, a)
		if code != want[i] {
			t.Errorf("the action %d alone: %d", i, code)
		}
		some, codes := impl.StorePlay(impl.Disk{}, acts[:i+1])
		if !sameDisk(some, next) || !slices.Equal(codes, want[:i+1]) {
			t.Errorf("the first %d actions: %s, %v", i+1, brief(some), codes)
		}
		e = next
	}
	if same, codes := impl.StorePlay(d, nil); !sameDisk(same, d) || len(codes) != 0 {
		t.Error("no actions:", brief(same), codes)
	}
	// As many actions as wanted.
	many, codes := impl.StorePlay(journal(""), slices.Repeat([]impl.Act{{Kind: impl.AcAdd, C: a, Power: -1}}, 70))
	if list, _ := impl.StoreView(many); len(list) != 60 || len(codes) != 70 || codes[59] != impl.StOk || slices.Min(codes[60:]) != impl.StFull || slices.Max(codes) != impl.StFull {
		t.Error("70 actions:", codes)
	}
}
