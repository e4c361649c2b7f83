package tests

import (
	"fmt"
	"math"
	"math/rand"
	"reflect"
	"slices"
	"strings"
	"testing"

	"loop.example/g00714/impl"
)

func appending(name, data string) impl.DOp {
	return impl.DOp{Kind: impl.DkAppend, Name: name, Data: data}
}

func renaming(name, to string) impl.DOp {
	return impl.DOp{Kind: impl.DkRename, Name: name, To: to}
}

func removing(name string) impl.DOp { return impl.DOp{Kind: impl.DkRemove, Name: name} }

// filesOf has a name and Data by turns.
func filesOf(texts ...string) []impl.File {
	var l []impl.File
	for i := 0; i < len(texts); i += 2 {
		l = append(l, impl.File{Name: texts[i], Data: texts[i+1]})
	}
	return l
}

// manyFiles has n files with one byte each.
func manyFiles(n int) []impl.File {
	var l []impl.File
	for i := range n {
		l = append(l, impl.File{Name: fmt.Sprintf("f%04d", i), Data: "x"})
	}
	return l
}

// synced is a disk with these files and no operations.
func synced(l []impl.File) impl.Disk {
	return impl.Disk{Live: slices.Clone(l), Safe: slices.Clone(l)}
}

// unsynced has the operations performed on the files, whether or not that is valid.
func unsynced(l []impl.File, ops ...impl.DOp) impl.Disk {
	d := synced(l)
	for _, op := range ops {
		d.Live, _ = performed(d.Live, op)
	}
	d.Ops = slices.Clone(ops)
	return d
}

func tidyDisk(d impl.Disk) impl.Disk {
	return impl.Disk{Live: append([]impl.File(nil), d.Live...), Safe: append([]impl.File(nil), d.Safe...), Ops: append([]impl.DOp(nil), d.Ops...)}
}

func sameDisk(a, b impl.Disk) bool { return reflect.DeepEqual(tidyDisk(a), tidyDisk(b)) }

// brief shortens the long texts of a disk.
func brief(v any) string {
	text := strings.ReplaceAll(fmt.Sprintf("%q", fmt.Sprintf("%+v", v)), strings.Repeat("d", 1000), "..")
	if len(text) > 600 {
		return text[:600] + ".."
	}
	return text
}

// performed is the text of the three Kinds, on a list; false if there is no such file.
func performed(l []impl.File, op impl.DOp) ([]impl.File, bool) {
	at := slices.IndexFunc(l, func(f impl.File) bool { return f.Name == op.Name })
	result := slices.Clone(l)
	switch op.Kind {
	case impl.DkAppend:
		if at < 0 {
			at = len(result)
			result = append(result, impl.File{Name: op.Name})
		}
		result[at].Data += op.Data
	case impl.DkRename:
		if at < 0 {
			return l, false
		}
		data := result[at].Data
		result = slices.DeleteFunc(result, func(f impl.File) bool { return f.Name == op.Name || f.Name == op.To })
		result = append(result, impl.File{Name: op.To, Data: data})
	case impl.DkRemove:
		if at < 0 {
			return l, false
		}
		result = slices.Delete(result, at, at+1)
	}
	slices.SortFunc(result, func(a, b impl.File) int { return strings.Compare(a.Name, b.Name) })
	return result, true
}

func validName(name string) bool { return 1 <= len(name) && len(name) <= 100 }

// validFiles is the text of what makes a list of files valid.
func validFiles(l []impl.File) bool {
	bytes := 0
	for i, f := range l {
		bytes += len(f.Data)
		if !validName(f.Name) || i > 0 && !(l[i-1].Name < f.Name) {
			return false
		}
	}
	return len(l) <= 60 && bytes <= 200000
}

// validForm is the text of DkForm.
func validForm(op impl.DOp) bool {
	known := op.Kind == impl.DkAppend || op.Kind == impl.DkRename || op.Kind == impl.DkRemove
	toOk := op.To == ""
	if op.Kind == impl.DkRename {
		toOk = validName(op.To)
	}
	return known && validName(op.Name) && toOk && (op.Data == "" || op.Kind == impl.DkAppend)
}

// validDisk is the text of DiskOk.
func validDisk(d impl.Disk) bool {
	if !validFiles(d.Live) || !validFiles(d.Safe) || len(d.Ops) > 200 {
		return false
	}
	l := d.Safe
	for _, op := range d.Ops {
		if !validForm(op) {
			return false
		}
		next, found := performed(l, op)
		if !found || !validFiles(next) {
			return false
		}
		l = next
	}
	return slices.Equal(l, d.Live)
}

// doneBy is the text of Do.
func doneBy(d impl.Disk, op impl.DOp) (impl.Disk, int64) {
	if !validDisk(d) {
		return impl.Disk{}, impl.DkDisk
	}
	if !validForm(op) {
		return d, impl.DkForm
	}
	l, found := performed(d.Live, op)
	if !found {
		return d, impl.DkNone
	}
	if len(d.Ops) == 200 || !validFiles(l) {
		return d, impl.DkFull
	}
	return impl.Disk{Live: l, Safe: d.Safe, Ops: append(slices.Clone(d.Ops), op)}, impl.DkOk
}

// crashedTo is the text of Crash.
func crashedTo(d impl.Disk, keep []int64, torn int64) (impl.Disk, bool) {
	if !validDisk(d) || torn < 0 {
		return impl.Disk{}, false
	}
	l := d.Safe
	for i, k := range keep {
		if k < 0 || k >= int64(len(d.Ops)) || i > 0 && k <= keep[i-1] {
			return impl.Disk{}, false
		}
		op := d.Ops[k]
		if i == len(keep)-1 && op.Kind == impl.DkAppend && int64(len(op.Data)) > torn {
			op.Data = op.Data[:torn]
		}
		l, _ = performed(l, op)
	}
	if !validFiles(l) {
		return impl.Disk{}, false
	}
	return synced(l), true
}

// replacedBy is the text of Replace.
func replacedBy(d impl.Disk, name, data string) (impl.Disk, int64) {
	ops := []impl.DOp{appending(name+".new", data), renaming(name+".new", name)}
	if slices.ContainsFunc(d.Live, func(f impl.File) bool { return f.Name == name+".new" }) {
		ops = append([]impl.DOp{removing(name + ".new")}, ops...)
	}
	result := d
	for _, op := range ops {
		next, code := doneBy(result, op)
		if code == impl.DkDisk {
			return impl.Disk{}, code
		}
		if code != impl.DkOk {
			return d, code
		}
		result = next
	}
	return result, impl.DkOk
}

// checkInvalid checks what each function returns for a disk that is not valid.
func checkInvalid(t *testing.T, name string, d impl.Disk) {
	t.Helper()
	if impl.DiskOk(d) {
		t.Errorf("%s: the disk %s is valid", name, brief(d))
	}
	for _, op := range []impl.DOp{appending("a", "b"), removing("nowhere"), {Kind: 9}} {
		if e, code := impl.Do(d, op); code != impl.DkDisk || !sameDisk(e, impl.Disk{}) {
			t.Errorf("%s: Do returns %s, %d", name, brief(e), code)
		}
	}
	if e := impl.Sync(d); !sameDisk(e, impl.Disk{}) {
		t.Errorf("%s: Sync returns %s", name, brief(e))
	}
	for _, keep := range [][]int64{nil, {0}, {-1}} {
		if e, ok := impl.Crash(d, keep, 5); ok || !sameDisk(e, impl.Disk{}) {
			t.Errorf("%s: Crash returns %s, %v", name, brief(e), ok)
		}
	}
	for _, f := range append(slices.Clone(d.Live), impl.File{Name: "a"}, impl.File{}) {
		if s, ok := impl.ReadFile(d, f.Name); ok || s != "" {
			t.Errorf("%s: ReadFile returns %q, %v", name, s, ok)
		}
		if e, code := impl.Replace(d, f.Name, "b"); code != impl.DkDisk || !sameDisk(e, impl.Disk{}) {
			t.Errorf("%s: Replace returns %s, %d", name, brief(e), code)
		}
	}
	checkNoStore(t, name, d)
}

// checkDisk checks whether a disk is valid, and that what it contains is read.
func checkDisk(t *testing.T, name string, d impl.Disk, want bool) {
	t.Helper()
	if validDisk(d) != want {
		t.Fatalf("%s: the test is wrong", name)
	}
	if !want {
		checkInvalid(t, name, d)
		return
	}
	if !impl.DiskOk(d) {
		t.Errorf("%s: the disk %s is not valid", name, brief(d))
		return
	}
	for _, f := range d.Live {
		if s, ok := impl.ReadFile(d, f.Name); !ok || s != f.Data {
			t.Errorf("%s: ReadFile of %q returns %q, %v", name, f.Name, brief(s), ok)
		}
	}
	if e := impl.Sync(d); !sameDisk(e, synced(d.Live)) {
		t.Errorf("%s: Sync returns %s", name, brief(e))
	}
	if e, ok := impl.Crash(d, nil, 0); !ok || !sameDisk(e, synced(d.Safe)) {
		t.Errorf("%s: Crash returns %s, %v", name, brief(e), ok)
	}
}

func TestDiskOkFiles(t *testing.T) {
	name100, data := strings.Repeat("n", 100), strings.Repeat("d", 200000)
	spread := manyFiles(60)
	spread[30].Data = strings.Repeat("d", 200000-59)
	tooMuch := slices.Clone(spread)
	tooMuch[59].Data = "xx"
	for _, r := range []struct {
		name string
		l    []impl.File
		want bool
	}{
		{"no files", nil, true},
		{"an empty list", []impl.File{}, true},
		{"a file", filesOf("a", "1"), true},
		{"an empty file", filesOf("a", ""), true},
		{"a name of 1 byte", filesOf("\x00", "1"), true},
		{"a name of 0 bytes", filesOf("", "1"), false},
		{"a name of 0 bytes before another", filesOf("", "1", "a", "2"), false},
		{"a name of 100 bytes", filesOf(name100, "1"), true},
		{"a name of 101 bytes", filesOf(name100+"n", "1"), false},
		{"a name of 101 bytes behind another", filesOf("a", "1", name100+"n", "1"), false},
		{"a name of 100 bytes, but fewer letters", filesOf(strings.Repeat("é", 50), "1"), true},
		{"a name of 51 letters, but more bytes", filesOf(strings.Repeat("é", 51), "1"), false},
		{"a very long name", filesOf(strings.Repeat("n", 100000), "1"), false},
		{"names that increase", filesOf("a", "1", "a\x00", "2", "aa", "3", "b", "4"), true},
		{"names of other bytes", filesOf("\x00", "1", "Z", "2", "a", "3", "\x80", "4", "é", "5", "\xff\xff", "6"), true},
		{"a name twice", filesOf("a", "1", "a", "2"), false},
		{"a name twice, with equal Data", filesOf("a", "1", "b", "2", "b", "2"), false},
		{"names that decrease", filesOf("b", "1", "a", "1"), false},
		{"a name that decreases behind others", filesOf("a", "1", "c", "1", "b", "1"), false},
		{"a longer name before its beginning", filesOf("aa", "1", "a", "1"), false},
		{"names compared as signed bytes", filesOf("\x80", "1", "a", "1"), false},
		{"59 files", manyFiles(59), true},
		{"60 files", manyFiles(60), true},
		{"61 files", manyFiles(61), false},
		{"1000 files", manyFiles(1000), false},
		{"200000 bytes in a file", filesOf("a", data), true},
		{"200001 bytes in a file", filesOf("a", data+"d"), false},
		{"200000 bytes in 60 files", spread, true},
		{"200001 bytes in 60 files", tooMuch, false},
		{"200000 bytes and an empty file", filesOf("a", data, "b", ""), true},
		{"200001 bytes in two files", filesOf("a", data, "b", "x"), false},
		{"much more in two files", filesOf("a", data, "b", data), false},
	} {
		checkDisk(t, r.name, synced(r.l), r.want)
		if len(r.l) > 0 {
			// The same in one of the lists alone.
			checkDisk(t, r.name+", in Live alone", impl.Disk{Live: r.l}, false)
			checkDisk(t, r.name+", in Safe alone", impl.Disk{Safe: r.l}, false)
		}
		if len(r.l) > 0 && len(r.l) < 60 {
			// The same by operations alone, and removed by operations.
			made, removed := impl.Disk{Live: r.l}, impl.Disk{Safe: r.l}
			for _, f := range r.l {
				made.Ops = append(made.Ops, appending(f.Name, f.Data))
				removed.Ops = append(removed.Ops, removing(f.Name))
			}
			checkDisk(t, r.name+", made by Ops", made, r.want)
			checkDisk(t, r.name+", removed by Ops", removed, r.want)
		}
	}
}

func TestDiskOkOps(t *testing.T) {
	name100, data := strings.Repeat("n", 100), strings.Repeat("d", 200000)
	name101, one := name100+"n", filesOf("a", "1")
	full := filesOf("a", data)
	for _, r := range []struct {
		name string
		d    impl.Disk
		want bool
	}{
		{"an operation of each kind", unsynced(one, appending("a", "2"), renaming("a", "b"), appending("c", "3"), removing("b")), true},
		{"names of 100 bytes", unsynced(one, appending(name100, "x"), renaming(name100, "b"), renaming("b", name100), removing(name100)), true},
		{"appending nothing", unsynced(one, appending("b", ""), appending("b", "")), true},
		{"a rename to itself", unsynced(one, renaming("a", "a")), true},
		{"a rename to a file that exists", unsynced(filesOf("a", "1", "b", "2"), renaming("b", "a")), true},

		{"the Kind 0", unsynced(one, impl.DOp{Kind: 0, Name: "a"}), false},
		{"the Kind 4", unsynced(one, impl.DOp{Kind: 4, Name: "a"}), false},
		{"the Kind -1", unsynced(one, impl.DOp{Kind: -1, Name: "a"}), false},
		{"the least Kind", unsynced(one, impl.DOp{Kind: math.MinInt64, Name: "a"}), false},
		{"the greatest Kind", unsynced(one, impl.DOp{Kind: math.MaxInt64, Name: "a"}), false},
		{"appending to no name, removed at the end", unsynced(one, appending("", "x"), removing("")), false},
		{"appending to a name of 101 bytes, renamed at the end", unsynced(one, appending(name101, "x"), renaming(name101, "b")), false},
		{"a rename to no name and back", unsynced(one, renaming("a", ""), renaming("", "a")), false},
		{"a rename to a name of 101 bytes and back", unsynced(one, renaming("a", name101), renaming(name101, "a")), false},
		{"appending with a To", unsynced(one, impl.DOp{Kind: impl.DkAppend, Name: "a", To: "b", Data: "x"}), false},
		{"removing with a To", unsynced(one, impl.DOp{Kind: impl.DkRemove, Name: "a", To: "b"}), false},
		{"removing with Data", unsynced(one, impl.DOp{Kind: impl.DkRemove, Name: "a", Data: "1"}), false},
		{"a rename with Data", unsynced(one, impl.DOp{Kind: impl.DkRename, Name: "a", To: "b", Data: "1"}), false},
		{"a rename of no file", unsynced(one, renaming("b", "c")), false},
		{"a rename of no file to itself", unsynced(one, renaming("b", "b")), false},
		{"a rename of no file to one that exists", unsynced(one, renaming("b", "a")), false},
		{"a rename of a file that was removed", unsynced(one, removing("a"), renaming("a", "b")), false},
		{"removing no file", unsynced(one, removing("b")), false},
		{"removing a file twice", unsynced(one, removing("a"), removing("a")), false},
		{"removing a file that was renamed", unsynced(one, renaming("a", "b"), removing("a")), false},

		{"Live has more", impl.Disk{Live: filesOf("a", "1", "b", "2"), Safe: one}, false},
		{"Live has less", impl.Disk{Live: one, Safe: filesOf("a", "1", "b", "2")}, false},
		{"Live has other Data", impl.Disk{Live: filesOf("a", "2"), Safe: one}, false},
		{"Live has another name", impl.Disk{Live: filesOf("b", "1"), Safe: one}, false},
		{"Live is as before the operations", impl.Disk{Live: one, Safe: one, Ops: []impl.DOp{appending("a", "2")}}, false},
		{"Safe is as after the operations", impl.Disk{Live: filesOf("a", "12"), Safe: filesOf("a", "12"), Ops: []impl.DOp{appending("a", "2")}}, false},
		{"Live without the last operation", impl.Disk{Live: filesOf("a", "12"), Safe: one, Ops: []impl.DOp{appending("a", "2"), appending("a", "3")}}, false},
		{"Live without the first operation", impl.Disk{Live: filesOf("a", "13"), Safe: one, Ops: []impl.DOp{appending("a", "2"), appending("a", "3")}}, false},
		{"Live by the operations in another order", impl.Disk{Live: filesOf("a", "132"), Safe: one, Ops: []impl.DOp{appending("a", "2"), appending("a", "3")}}, false},

		{"200 operations", unsynced(one, slices.Repeat([]impl.DOp{appending("a", "x")}, 200)...), true},
		{"201 operations", unsynced(one, slices.Repeat([]impl.DOp{appending("a", "x")}, 201)...), false},
		{"201 operations that change nothing", unsynced(one, slices.Repeat([]impl.DOp{renaming("a", "a")}, 201)...), false},
		{"200000 bytes on the way", unsynced(filesOf("a", data[1:]), appending("b", "x"), removing("b")), true},
		{"200001 bytes on the way", unsynced(full, appending("b", "x"), removing("b")), false},
		{"200001 bytes in a file on the way", unsynced(full, appending("a", "x"), removing("a")), false},
		{"200000 bytes again and again", unsynced(full, removing("a"), appending("a", data), removing("a"), appending("b", data), renaming("b", "a")), true},
		{"60 files on the way", unsynced(manyFiles(59), appending("a", "x"), removing("a")), true},
		{"61 files on the way", unsynced(manyFiles(60), appending("a", "x"), removing("a")), false},
		{"61 files on the way, by appending nothing", unsynced(manyFiles(60), appending("a", ""), removing("a")), false},
		{"60 files of which one is renamed", unsynced(manyFiles(60), renaming("f0000", "z")), true},
	} {
		checkDisk(t, r.name, r.d, r.want)
	}
}

// checkDo compares with what is expected and with the text of Do.
func checkDo(t *testing.T, name string, d impl.Disk, op impl.DOp, code int64, live []impl.File) {
	t.Helper()
	want := impl.Disk{Live: live, Safe: d.Safe, Ops: append(slices.Clone(d.Ops), op)}
	switch code {
	case impl.DkOk:
	case impl.DkDisk:
		want = impl.Disk{}
	default:
		want = d
	}
	e, got := impl.Do(d, op)
	if got != code || !sameDisk(e, want) {
		t.Errorf("%s: Do returns %s, %d, not %s, %d", name, brief(e), got, brief(want), code)
	}
	if f, n := doneBy(d, op); n != code || !sameDisk(f, want) {
		t.Errorf("%s: the test is wrong: %s, %d", name, brief(f), n)
	}
	if code != impl.DkDisk && !impl.DiskOk(e) {
		t.Errorf("%s: Do returns %s, which is not valid", name, brief(e))
	}
}

func TestDo(t *testing.T) {
	two := synced(filesOf("b", "12", "d", "345"))
	for _, r := range []struct {
		name string
		op   impl.DOp
		live []impl.File
	}{
		{"appending to a file", appending("b", "xy"), filesOf("b", "12xy", "d", "345")},
		{"appending to the last file", appending("d", "\x00\xff"), filesOf("b", "12", "d", "345\x00\xff")},
		{"appending nothing to a file", appending("b", ""), filesOf("b", "12", "d", "345")},
		{"appending to a new file before the others", appending("a", "xy"), filesOf("a", "xy", "b", "12", "d", "345")},
		{"appending to a new file between the others", appending("c", "xy"), filesOf("b", "12", "c", "xy", "d", "345")},
		{"appending to a new file behind the others", appending("e", "xy"), filesOf("b", "12", "d", "345", "e", "xy")},
		{"appending to a new file with a longer name", appending("b\x00", "xy"), filesOf("b", "12", "b\x00", "xy", "d", "345")},
		{"appending to a new file with a great byte", appending("\xff", "xy"), filesOf("b", "12", "d", "345", "\xff", "xy")},
		{"appending nothing to a file that does not exist", appending("c", ""), filesOf("b", "12", "c", "", "d", "345")},
		{"a rename to a name before the others", renaming("d", "a"), filesOf("a", "345", "b", "12")},
		{"a rename to a name between the others", renaming("d", "c"), filesOf("b", "12", "c", "345")},
		{"a rename to a name behind the others", renaming("b", "e"), filesOf("d", "345", "e", "12")},
		{"a rename of a file to itself", renaming("b", "b"), filesOf("b", "12", "d", "345")},
		{"a rename to the next file", renaming("b", "d"), filesOf("d", "12")},
		{"a rename to the file before", renaming("d", "b"), filesOf("b", "345")},
		{"removing the first file", removing("b"), filesOf("d", "345")},
		{"removing the last file", removing("d"), filesOf("b", "12")},
	} {
		checkDo(t, r.name, two, r.op, impl.DkOk, r.live)
		// The same with other operations before.
		before := unsynced(filesOf("a", "1", "d", "3"), renaming("a", "b"), appending("b", "2"), appending("d", "45"))
		checkDo(t, r.name+", later", before, r.op, impl.DkOk, r.live)
	}
	checkDo(t, "appending to the empty disk", impl.Disk{}, appending("a", "1"), impl.DkOk, filesOf("a", "1"))
	checkDo(t, "appending nothing to the empty disk", impl.Disk{}, appending("a", ""), impl.DkOk, filesOf("a", ""))
	checkDo(t, "removing the only file", synced(filesOf("a", "1")), removing("a"), impl.DkOk, nil)
	long := strings.Repeat("n", 100)
	checkDo(t, "a name of 100 bytes", two, appending(long, "1"), impl.DkOk, filesOf("b", "12", "d", "345", long, "1"))
	checkDo(t, "a rename to 100 bytes", two, renaming("d", long), impl.DkOk, filesOf("b", "12", long, "345"))
}

// fullDisk has MaxOps operations.
func fullDisk() impl.Disk {
	return unsynced(filesOf("a", "1", "b", "2"), slices.Repeat([]impl.DOp{appending("a", "x")}, 200)...)
}

func invalidForms() map[string]impl.DOp {
	long := strings.Repeat("n", 101)
	return map[string]impl.DOp{
		"the zero value":                   {},
		"the Kind 0":                       {Kind: 0, Name: "a"},
		"the Kind 4":                       {Kind: 4, Name: "a"},
		"the Kind -1":                      {Kind: -1, Name: "a"},
		"the least Kind":                   {Kind: math.MinInt64, Name: "a", To: "b", Data: "c"},
		"the greatest Kind":                {Kind: math.MaxInt64, Name: "a"},
		"appending to no name":             appending("", "x"),
		"appending to 101 bytes":           appending(long, "x"),
		"appending with a To":              {Kind: impl.DkAppend, Name: "a", To: "b", Data: "x"},
		"appending with a To of 101 bytes": {Kind: impl.DkAppend, Name: "a", To: long, Data: "x"},
		"a rename of no name":              renaming("", "b"),
		"a rename of 101 bytes":            renaming(long, "b"),
		"a rename to no name":              renaming("a", ""),
		"a rename to 101 bytes":            renaming("a", long),
		"a rename with Data":               {Kind: impl.DkRename, Name: "a", To: "b", Data: "x"},
		"removing no name":                 removing(""),
		"removing 101 bytes":               removing(long),
		"removing with a To":               {Kind: impl.DkRemove, Name: "a", To: "b"},
		"removing with Data":               {Kind: impl.DkRemove, Name: "a", Data: "x"},
	}
}

func TestDoCodes(t *testing.T) {
	two := synced(filesOf("a", "1", "b", "2"))
	data := strings.Repeat("d", 200000)
	much := synced(filesOf("a", "1", "b", data[1:]))
	bad := impl.Disk{Live: filesOf("a", "1")}
	for name, op := range invalidForms() {
		checkDo(t, name, two, op, impl.DkForm, nil)
		checkDo(t, name+", of a disk that is not valid", bad, op, impl.DkDisk, nil)
		checkDo(t, name+", of no file", impl.Disk{}, op, impl.DkForm, nil)
		checkDo(t, name+", of a disk with MaxOps operations", fullDisk(), op, impl.DkForm, nil)
		checkDo(t, name+", of a disk with MaxBytes bytes", much, op, impl.DkForm, nil)
		checkDo(t, name+", of a disk with MaxFiles files", synced(manyFiles(60)), op, impl.DkForm, nil)
	}
	for _, op := range []impl.DOp{renaming("c", "d"), renaming("c", "c"), renaming("c", "a"), removing("c"), removing("aa"), renaming("A", "a")} {
		checkDo(t, "no file", two, op, impl.DkNone, nil)
		checkDo(t, "no file of a disk that is not valid", bad, op, impl.DkDisk, nil)
		checkDo(t, "no file of the empty disk", impl.Disk{}, op, impl.DkNone, nil)
		checkDo(t, "no file of a disk with MaxOps operations", fullDisk(), op, impl.DkNone, nil)
	}
	checkDo(t, "a file of Safe alone", unsynced(filesOf("a", "1"), removing("a")), removing("a"), impl.DkNone, nil)
	checkDo(t, "a file of Live alone", unsynced(nil, appending("a", "1")), removing("a"), impl.DkOk, nil)
	for _, op := range []impl.DOp{appending("a", "1"), appending("a", ""), appending("c", "1"), renaming("a", "b"), renaming("a", "a"), removing("a")} {
		checkDo(t, "a disk with MaxOps operations", fullDisk(), op, impl.DkFull, nil)
		checkDo(t, "a disk with more operations", unsynced(filesOf("a", "1"), slices.Repeat([]impl.DOp{appending("a", "x")}, 201)...), op, impl.DkDisk, nil)
	}
	ops199 := unsynced(filesOf("a", "1"), slices.Repeat([]impl.DOp{renaming("a", "a")}, 199)...)
	checkDo(t, "the last operation", ops199, removing("a"), impl.DkOk, nil)
}

func TestDoLimits(t *testing.T) {
	data := strings.Repeat("d", 200000)
	much, less := synced(filesOf("a", "1", "b", data[1:])), synced(filesOf("a", "1", "b", data[3:]))
	many := synced(manyFiles(60))
	checkDo(t, "as many bytes as possible", less, appending("a", "23"), impl.DkOk, filesOf("a", "123", "b", data[3:]))
	checkDo(t, "as many bytes as possible, in a new file", less, appending("c", "23"), impl.DkOk, filesOf("a", "1", "b", data[3:], "c", "23"))
	checkDo(t, "one byte too many", less, appending("a", "234"), impl.DkFull, nil)
	checkDo(t, "one byte too many, in a new file", less, appending("c", "234"), impl.DkFull, nil)
	checkDo(t, "one byte", much, appending("a", "2"), impl.DkFull, nil)
	checkDo(t, "no bytes", much, appending("a", ""), impl.DkOk, much.Live)
	checkDo(t, "a new file without bytes", much, appending("c", ""), impl.DkOk, append(slices.Clone(much.Live), impl.File{Name: "c"}))
	checkDo(t, "a rename with MaxBytes bytes", much, renaming("b", "c"), impl.DkOk, filesOf("a", "1", "c", data[1:]))
	checkDo(t, "a rename to another file with MaxBytes bytes", much, renaming("b", "a"), impl.DkOk, filesOf("a", data[1:]))
	checkDo(t, "removing with MaxBytes bytes", much, removing("a"), impl.DkOk, filesOf("b", data[1:]))
	checkDo(t, "200000 bytes at once", impl.Disk{}, appending("a", data), impl.DkOk, filesOf("a", data))
	checkDo(t, "200001 bytes at once", impl.Disk{}, appending("a", data+"d"), impl.DkFull, nil)
	checkDo(t, "many bytes at once", less, appending("a", strings.Repeat(data, 20)), impl.DkFull, nil)
	checkDo(t, "the last file", synced(manyFiles(59)), appending("z", "x"), impl.DkOk, append(manyFiles(59), impl.File{Name: "z", Data: "x"}))
	checkDo(t, "one file too many", many, appending("z", "x"), impl.DkFull, nil)
	checkDo(t, "one empty file too many", many, appending("z", ""), impl.DkFull, nil)
	longer := manyFiles(60)
	longer[7].Data = "xy"
	checkDo(t, "appending to one of 60 files", many, appending("f0007", "y"), impl.DkOk, longer)
	checkDo(t, "a rename of one of 60 files", many, renaming("f0059", "z"), impl.DkOk, append(manyFiles(59), impl.File{Name: "z", Data: "x"}))
	checkDo(t, "removing one of 60 files", many, removing("f0059"), impl.DkOk, manyFiles(59))
}

func TestSyncAndReadFile(t *testing.T) {
	d := unsynced(filesOf("a", "1", "b", "2"), appending("a", "x"), removing("b"), appending("c", ""), renaming("a", "d"))
	if e := impl.Sync(d); !sameDisk(e, synced(filesOf("c", "", "d", "1x"))) {
		t.Error("Sync:", brief(e))
	}
	if e := impl.Sync(impl.Disk{}); !sameDisk(e, impl.Disk{}) {
		t.Error("Sync of nothing:", brief(e))
	}
	if e := impl.Sync(fullDisk()); len(e.Ops) != 0 || !impl.DiskOk(e) || len(e.Live[0].Data) != 201 {
		t.Error("Sync of a full disk:", brief(e))
	}
	for name, want := range map[string]string{"a": "", "b": "", "c": "+", "d": "+1x", "": "", "D": "", "d\x00": "", strings.Repeat("d", 101): ""} {
		s, ok := impl.ReadFile(d, name)
		if ok != (want != "") || ok && "+"+s != want || !ok && s != "" {
			t.Errorf("ReadFile of %q returns %q, %v", name, s, ok)
		}
	}
}

func TestDiskExamples(t *testing.T) {
	d, _ := impl.Do(impl.Disk{}, appending("log", "ab"))
	d = impl.Sync(d)
	d, _ = impl.Do(d, appending("log", "cd"))
	d, _ = impl.Do(d, appending("b", "x"))
	if !sameDisk(d, impl.Disk{Live: filesOf("b", "x", "log", "abcd"), Safe: filesOf("log", "ab"), Ops: []impl.DOp{appending("log", "cd"), appending("b", "x")}}) {
		t.Fatal(brief(d))
	}
	if e, ok := impl.Crash(d, []int64{0}, 1); !ok || !sameDisk(e, synced(filesOf("log", "abc"))) {
		t.Error("Crash:", brief(e), ok)
	}
	if s, ok := impl.ReadFile(d, "log"); !ok || s != "abcd" {
		t.Error("ReadFile:", s, ok)
	}
	e, code := impl.Replace(impl.Sync(d), "log", "new")
	want := impl.Disk{Live: filesOf("b", "x", "log", "new"), Safe: filesOf("b", "x", "log", "abcd"), Ops: []impl.DOp{appending("log.new", "new"), renaming("log.new", "log")}}
	if code != impl.DkOk || !sameDisk(e, want) {
		t.Error("Replace:", brief(e), code)
	}
}

func checkCrash(t *testing.T, name string, d impl.Disk, keep []int64, torn int64, ok bool, l []impl.File) {
	t.Helper()
	want := synced(l)
	e, got := impl.Crash(d, keep, torn)
	if got != ok || !sameDisk(e, want) {
		t.Errorf("%s: Crash with %v and %d returns %s, %v, not %s, %v", name, keep, torn, brief(e), got, brief(want), ok)
	}
	if f, n := crashedTo(d, keep, torn); n != ok || !sameDisk(f, want) {
		t.Errorf("%s: the test is wrong: %s, %v", name, brief(f), n)
	}
}

func TestCrash(t *testing.T) {
	d := unsynced(filesOf("a", "12", "b", "34"), appending("a", "xyz"), renaming("a", "c"), appending("c", "uv"), removing("b"), appending("e", ""), renaming("e", "b"))
	for _, r := range []struct {
		name string
		keep []int64
		torn int64
		want []impl.File
	}{
		{"nothing", nil, 0, filesOf("a", "12", "b", "34")},
		{"nothing, not torn", []int64{}, math.MaxInt64, filesOf("a", "12", "b", "34")},
		{"everything", []int64{0, 1, 2, 3, 4, 5}, 99, filesOf("b", "", "c", "12xyzuv")},
		{"everything, torn, but the last one is a rename", []int64{0, 1, 2, 3, 4, 5}, 0, filesOf("b", "", "c", "12xyzuv")},
		{"appending torn to nothing", []int64{0}, 0, filesOf("a", "12", "b", "34")},
		{"appending torn to a byte", []int64{0}, 1, filesOf("a", "12x", "b", "34")},
		{"appending torn by a byte", []int64{0}, 2, filesOf("a", "12xy", "b", "34")},
		{"appending with torn as long as the Data", []int64{0}, 3, filesOf("a", "12xyz", "b", "34")},
		{"appending with a longer torn", []int64{0}, 4, filesOf("a", "12xyz", "b", "34")},
		{"appending with the greatest torn", []int64{0}, math.MaxInt64, filesOf("a", "12xyz", "b", "34")},
		{"only the last one is torn", []int64{0, 2}, 1, filesOf("a", "12xyz", "b", "34", "c", "u")},
		{"a file that is created and torn to nothing", []int64{2}, 0, filesOf("a", "12", "b", "34", "c", "")},
		{"an append to nothing", []int64{4}, 0, filesOf("a", "12", "b", "34", "e", "")},
		{"an append before the rename that is kept", []int64{0, 1}, 0, filesOf("b", "34", "c", "12xyz")},
		{"a rename", []int64{1}, 0, filesOf("b", "34", "c", "12")},
		{"removing", []int64{3}, 0, filesOf("a", "12")},
		{"a rename of no file", []int64{5}, 0, filesOf("a", "12", "b", "34")},
		{"a rename of no file leaves the file To", []int64{0, 5}, 0, filesOf("a", "12xyz", "b", "34")},
		{"a rename to a file that was not removed", []int64{4, 5}, 0, filesOf("a", "12", "b", "")},
		{"a rename and appending", []int64{1, 2, 4}, 0, filesOf("b", "34", "c", "12uv", "e", "")},
	} {
		checkCrash(t, r.name, d, r.keep, r.torn, true, r.want)
	}
	gone := unsynced(filesOf("a", "1"), appending("b", "2"), removing("b"), renaming("a", "c"), removing("c"))
	checkCrash(t, "removing no file", gone, []int64{1}, 0, true, filesOf("a", "1"))
	checkCrash(t, "removing no file twice", gone, []int64{1, 3}, 0, true, filesOf("a", "1"))
	checkCrash(t, "removing no file, and what follows", gone, []int64{1, 2, 3}, 0, true, nil)
	checkCrash(t, "a file removed that was torn", gone, []int64{0, 1}, 0, true, filesOf("a", "1"))
}

func TestCrashRejects(t *testing.T) {
	d := unsynced(filesOf("a", "12"), appending("a", "x"), appending("b", "y"), appending("c", "z"))
	for _, keep := range [][]int64{
		{0, 0}, {1, 1}, {1, 0}, {2, 1}, {0, 2, 1}, {0, 1, 1}, {0, 1, 2, 2}, {-1}, {-1, 0}, {3}, {0, 3}, {0, 1, 2, 3}, {4}, {math.MinInt64}, {math.MaxInt64},
		{0, math.MaxInt64}, {math.MinInt64, 0, 1}, {0, -1}, {1 << 32}, {1<<32 + 1},
	} {
		checkCrash(t, "keep", d, keep, 5, false, nil)
	}
	for _, torn := range []int64{-1, -2, math.MinInt64} {
		for _, keep := range [][]int64{nil, {0}, {0, 1, 2}, {3}} {
			checkCrash(t, "torn", d, keep, torn, false, nil)
		}
		checkCrash(t, "torn", unsynced(filesOf("a", "1"), removing("a")), []int64{0}, torn, false, nil)
	}
	for _, keep := range [][]int64{{0}, {-1}, {0, 0}} {
		checkCrash(t, "no operations", synced(filesOf("a", "1")), keep, 5, false, nil)
	}
	checkCrash(t, "no operations are kept of none", impl.Disk{}, nil, 0, true, nil)
	checkCrash(t, "the last of MaxOps operations", fullDisk(), []int64{199}, 5, true, filesOf("a", "1x", "b", "2"))
	checkCrash(t, "beyond MaxOps operations", fullDisk(), []int64{200}, 5, false, nil)
}

func TestCrashResultNotValid(t *testing.T) {
	data := strings.Repeat("d", 200000)
	d := unsynced(filesOf("a", data), removing("a"), appending("b", data), removing("b"), appending("c", "x"))
	checkCrash(t, "without the first removal", d, []int64{1}, 200000, false, nil)
	checkCrash(t, "without the first removal, torn to a byte", d, []int64{1}, 1, false, nil)
	checkCrash(t, "without the first removal, torn to nothing", d, []int64{1}, 0, true, filesOf("a", data, "b", ""))
	checkCrash(t, "too many bytes on the way", d, []int64{1, 2}, 0, true, filesOf("a", data))
	checkCrash(t, "a byte too many behind that", d, []int64{1, 2, 3}, 1, false, nil)
	checkCrash(t, "an empty file behind that", d, []int64{1, 2, 3}, 0, true, filesOf("a", data, "c", ""))
	checkCrash(t, "all", d, []int64{0, 1, 2, 3}, 1, true, filesOf("c", "x"))
	less := unsynced(filesOf("a", data[2:]), removing("a"), appending("b", "xyz"))
	checkCrash(t, "a byte too many", less, []int64{1}, 3, false, nil)
	checkCrash(t, "a byte too many, torn", less, []int64{1}, 2, true, filesOf("a", data[2:], "b", "xy"))
	many := unsynced(manyFiles(60), removing("f0000"), appending("a", "1"), removing("a"))
	checkCrash(t, "a file too many", many, []int64{1}, 1, false, nil)
	checkCrash(t, "an empty file too many", many, []int64{1}, 0, false, nil)
	checkCrash(t, "a file too many on the way", many, []int64{1, 2}, 0, true, manyFiles(60))
	checkCrash(t, "a file for another one", many, []int64{0, 1}, 0, true, append(filesOf("a", ""), manyFiles(60)[1:]...))
}

func randomName(source *rand.Rand) string {
	return []string{"a", "b", "c", "a.new", "log", "log.new", "\xff", "b\x00"}[source.Intn(8)]
}

func randomOp(source *rand.Rand) impl.DOp {
	switch source.Intn(5) {
	case 0:
		return renaming(randomName(source), randomName(source))
	case 1:
		return removing(randomName(source))
	}
	return appending(randomName(source), "0123456"[source.Intn(7):])
}

// randomDisk is valid.
func randomDisk(source *rand.Rand, ops int) impl.Disk {
	d := impl.Disk{}
	for range source.Intn(12) {
		d, _ = doneBy(d, randomOp(source))
	}
	d = synced(d.Live)
	for range source.Intn(4 * (ops + 1)) {
		if len(d.Ops) < ops {
			d, _ = doneBy(d, randomOp(source))
		}
	}
	return d
}

// subsets returns each strictly increasing list of the indexes of n operations.
func subsets(n int) [][]int64 {
	var all [][]int64
	for set := range 1 << n {
		var keep []int64
		for i := range n {
			if set>>i&1 == 1 {
				keep = append(keep, int64(i))
			}
		}
		all = append(all, keep)
	}
	return all
}

// tornUpTo returns each number of bytes to which the last operation of keep can be torn, and one more.
func tornUpTo(d impl.Disk, keep []int64) []int64 {
	torn := []int64{0}
	if len(keep) > 0 {
		for range len(d.Ops[keep[len(keep)-1]].Data) + 1 {
			torn = append(torn, int64(len(torn)))
		}
	}
	return torn
}

// TestRandomDisks compares all functions with the text of the chapter; with the promise 11 by the way.
func TestRandomDisks(t *testing.T) {
	source := rand.New(rand.NewSource(111))
	kinds, codes := map[int64]int{}, map[int64]int{}
	for range 400 {
		d := randomDisk(source, source.Intn(6))
		checkDisk(t, "a random disk", d, true)
		for _, op := range d.Ops {
			kinds[op.Kind]++
		}
		for _, keep := range subsets(len(d.Ops)) {
			for _, torn := range tornUpTo(d, keep) {
				want, _ := crashedTo(d, keep, torn)
				checkCrash(t, "a random disk", d, keep, torn, true, want.Live)
			}
		}
		for range 5 {
			op := randomOp(source)
			want, code := doneBy(d, op)
			checkDo(t, "a random disk", d, op, code, want.Live)
			codes[code]++
			checkReplace(t, "a random disk", d, randomName(source), op.Data)
		}
	}
	for kind := int64(impl.DkAppend); kind <= impl.DkRemove; kind++ {
		if kinds[kind] < 50 {
			t.Errorf("the Kind %d occurs %d times", kind, kinds[kind])
		}
	}
	if codes[impl.DkOk] < 50 || codes[impl.DkNone] < 50 {
		t.Error("codes:", codes)
	}
}

// TestAllOrNothing is the promise 11.
func TestAllOrNothing(t *testing.T) {
	source := rand.New(rand.NewSource(112))
	for i := range 200 {
		d := impl.Sync(randomDisk(source, 20))
		seen := d.Live
		var all []int64
		n := i % 40
		if i%50 == 49 { // more than there can be
			n = 300
		}
		for range n {
			e, code := impl.Do(d, randomOp(source))
			if code == impl.DkOk {
				all = append(all, int64(len(all)))
			}
			d = e
		}
		if len(all) != len(d.Ops) {
			t.Fatalf("%d operations of %d", len(d.Ops), len(all))
		}
		for _, torn := range []int64{7, math.MaxInt64} {
			if e, ok := impl.Crash(d, all, torn); !ok || !sameDisk(e, synced(d.Live)) {
				t.Errorf("all operations of %s: %s, %v", brief(d), brief(e), ok)
			}
		}
		for _, torn := range []int64{0, 1, math.MaxInt64} {
			if e, ok := impl.Crash(d, nil, torn); !ok || !sameDisk(e, synced(seen)) {
				t.Errorf("no operations of %s: %s, %v", brief(d), brief(e), ok)
			}
		}
		if e, ok := impl.Crash(impl.Sync(d), nil, 0); !ok || !sameDisk(e, synced(d.Live)) {
			t.Errorf("no operations of %s after Sync: %s, %v", brief(d), brief(e), ok)
		}
	}
}

func checkReplace(t *testing.T, name string, d impl.Disk, file, data string) {
	t.Helper()
	want, code := replacedBy(d, file, data)
	if e, got := impl.Replace(d, file, data); got != code || !sameDisk(e, want) {
		t.Errorf("%s: Replace returns %s, %d, not %s, %d", name, brief(e), got, brief(want), code)
	}
}

func TestReplace(t *testing.T) {
	for _, r := range []struct {
		name string
		d    impl.Disk
		file string
		live []impl.File
		ops  []impl.DOp
	}{
		{"a file", synced(filesOf("a", "1", "b", "2")), "a", filesOf("a", "new", "b", "2"), []impl.DOp{appending("a.new", "new"), renaming("a.new", "a")}},
		{"no file", synced(filesOf("b", "2")), "a", filesOf("a", "new", "b", "2"), []impl.DOp{appending("a.new", "new"), renaming("a.new", "a")}},
		{"no file of the empty disk", impl.Disk{}, "a", filesOf("a", "new"), []impl.DOp{appending("a.new", "new"), renaming("a.new", "a")}},
		{"the temporary file is there", synced(filesOf("a", "1", "a.new", "old")), "a", filesOf("a", "new"), []impl.DOp{removing("a.new"), appending("a.new", "new"), renaming("a.new", "a")}},
		{"the temporary file alone", synced(filesOf("a.new", "")), "a", filesOf("a", "new"), []impl.DOp{removing("a.new"), appending("a.new", "new"), renaming("a.new", "a")}},
		{"the temporary file was removed", unsynced(filesOf("a", "1", "a.new", "old"), removing("a.new")), "a", filesOf("a", "new"), []impl.DOp{removing("a.new"), appending("a.new", "new"), renaming("a.new", "a")}},
		{"a temporary file itself", synced(filesOf("a", "1", "a.new", "2")), "a.new", filesOf("a", "1", "a.new", "new"), []impl.DOp{appending("a.new.new", "new"), renaming("a.new.new", "a.new")}},
		{"another file without its end", synced(filesOf("anew", "1")), "a", filesOf("a", "new", "anew", "1"), []impl.DOp{appending("a.new", "new"), renaming("a.new", "a")}},
	} {
		e, code := impl.Replace(r.d, r.file, "new")
		if code != impl.DkOk || !sameDisk(e, impl.Disk{Live: r.live, Safe: r.d.Safe, Ops: r.ops}) {
			t.Errorf("%s: %s, %d", r.name, brief(e), code)
		}
		checkReplace(t, r.name, r.d, r.file, "new")
		checkReplace(t, r.name+", by nothing", r.d, r.file, "")
	}
}

func TestReplaceCodes(t *testing.T) {
	data := strings.Repeat("d", 200000)
	name96 := strings.Repeat("n", 96)
	one, left := filesOf("a", "1"), filesOf("a", "1", "a.new", "old")
	ops := func(l []impl.File, n int) impl.Disk {
		return unsynced(l, slices.Repeat([]impl.DOp{renaming("a", "a")}, n)...)
	}
	for _, r := range []struct {
		name string
		d    impl.Disk
		file string
		data string
		code int64
	}{
		{"a name of 96 bytes", synced(one), name96, "x", impl.DkOk},
		{"a name of 97 bytes", synced(one), name96 + "n", "x", impl.DkForm},
		{"a name of 97 bytes that exists", synced(filesOf(name96+"n", "1")), name96 + "n", "x", impl.DkForm},
		{"a name of 101 bytes", synced(one), name96 + "nnnnn", "x", impl.DkForm},
		{"no name, which the rename rejects", synced(one), "", "x", impl.DkForm},
		{"no name, with its temporary file", synced(filesOf(".new", "1")), "", "x", impl.DkForm},
		{"no name and too many bytes, which the append rejects", synced(one), "", data, impl.DkFull},
		{"a name of 97 bytes and too many bytes", synced(one), name96 + "n", data, impl.DkForm},
		{"as many bytes as possible", synced(one), "a", data[1:], impl.DkOk},
		{"one byte too many beside the old contents", synced(one), "a", data, impl.DkFull},
		{"as many bytes as possible for those of the temporary file", synced(left), "a", data[1:], impl.DkOk},
		{"one byte too many after the first operation", synced(left), "a", data, impl.DkFull},
		{"one byte too many at once", impl.Disk{}, "a", data + "d", impl.DkFull},
		{"59 files", synced(manyFiles(59)), "f0003", "x", impl.DkOk},
		{"60 files", synced(manyFiles(60)), "f0003", "x", impl.DkFull},
		{"60 files with the temporary one", synced(append(manyFiles(59), impl.File{Name: "z.new"})), "z", "x", impl.DkOk},
		{"198 operations", ops(one, 198), "a", "x", impl.DkOk},
		{"199 operations, so that the rename is rejected", ops(one, 199), "a", "x", impl.DkFull},
		{"200 operations", ops(one, 200), "a", "x", impl.DkFull},
		{"197 operations and the temporary file", ops(left, 197), "a", "x", impl.DkOk},
		{"198 operations, so that the rename is rejected after both others", ops(left, 198), "a", "x", impl.DkFull},
		{"199 operations and the temporary file", ops(left, 199), "a", "x", impl.DkFull},
		{"200 operations and the temporary file", ops(left, 200), "a", "x", impl.DkFull},
		{"200 operations and no name", ops(one, 200), "", "x", impl.DkFull},
		{"199 operations and no name", ops(one, 199), "", "x", impl.DkForm},
		{"not a valid disk", impl.Disk{Live: one}, "", data, impl.DkDisk},
	} {
		want := r.d
		if r.code == impl.DkDisk {
			want = impl.Disk{}
		}
		e, code := impl.Replace(r.d, r.file, r.data)
		if code != r.code || code != impl.DkOk && !sameDisk(e, want) {
			t.Errorf("%s: %s, %d, not %d", r.name, brief(e), code, r.code)
		}
		if s, ok := impl.ReadFile(e, r.file); r.code == impl.DkOk && (!ok || s != r.data) {
			t.Errorf("%s: the file has %q, %v", r.name, brief(s), ok)
		}
		checkReplace(t, r.name, r.d, r.file, r.data)
	}
}

// TestReplaceAndLossOfPower loses the power after each of the operations of Replace, and keeps each subset of them, torn anywhere.
func TestReplaceAndLossOfPower(t *testing.T) {
	for _, old := range []string{"", "o", "old contents"} {
		for _, left := range [][]impl.File{nil, filesOf("log.new", ""), filesOf("log.new", "rest")} {
			d := synced(append(filesOf("log", old), left...))
			all, code := impl.Replace(d, "log", "new text")
			if code != impl.DkOk || len(all.Ops) != 2+len(left) {
				t.Fatal(brief(all), code)
			}
			for n := range len(all.Ops) + 1 {
				e := d
				for _, op := range all.Ops[:n] {
					e, _ = impl.Do(e, op)
				}
				checkOldOrNew(t, e, old, "new text", len(left) > 0)
			}
		}
	}
}

// checkOldOrNew expects the old or the new contents of log. With a temporary file that was there before, subsets that keep what follows its
// removal, but not that, lead to what the chapter's operations do to it.
func checkOldOrNew(t *testing.T, d impl.Disk, old, data string, left bool) {
	t.Helper()
	for _, keep := range subsets(len(d.Ops)) {
		for _, torn := range tornUpTo(d, keep) {
			want, _ := crashedTo(d, keep, torn)
			checkCrash(t, "Replace", d, keep, torn, true, want.Live)
			e, _ := impl.Crash(d, keep, torn)
			s, ok := impl.ReadFile(e, "log")
			inOrder := !left || len(keep) == 0 || keep[0] == 0
			if !ok || inOrder && s != old && s != data {
				t.Errorf("after %v, of which %v is kept, torn to %d, log has %q", d.Ops, keep, torn, s)
			}
		}
	}
}

// anyText returns names and Data of any bytes and many lengths.
func anyText(source *rand.Rand) string {
	switch source.Intn(8) {
	case 0:
		return ""
	case 1:
		return strings.Repeat("n", 99+source.Intn(3))
	case 2:
		bytes := make([]byte, source.Intn(20))
		source.Read(bytes)
		return string(bytes)
	}
	return randomName(source)
}

func anyNumber(source *rand.Rand) int64 {
	return append([]int64{0, 1, 2, 3, 4, 5, 6, 99}, extremes...)[source.Intn(8+len(extremes))]
}

func anyFiles(source *rand.Rand) []impl.File {
	var l []impl.File
	for range source.Intn(4) {
		l = append(l, impl.File{Name: anyText(source), Data: anyText(source)})
	}
	if source.Intn(2) == 0 {
		slices.SortFunc(l, func(a, b impl.File) int { return strings.Compare(a.Name, b.Name) })
	}
	return l
}

func anyOp(source *rand.Rand) impl.DOp {
	if source.Intn(3) > 0 {
		return randomOp(source)
	}
	return impl.DOp{Kind: anyNumber(source), Name: anyText(source), To: anyText(source), Data: anyText(source)}
}

// anyDisk is valid or not.
func anyDisk(source *rand.Rand) impl.Disk {
	d := randomDisk(source, 5)
	switch source.Intn(6) {
	case 0:
		d = synced(anyFiles(source))
	case 1:
		d.Live = anyFiles(source)
	case 2:
		d.Safe = anyFiles(source)
	case 3:
		d.Ops = append(d.Ops, anyOp(source))
	case 4:
		d = unsynced(anyFiles(source), anyOp(source), anyOp(source))
	}
	return d
}

// TestAnyDisks compares the functions with the text of the chapter for arguments of any kind.
func TestAnyDisks(t *testing.T) {
	source := rand.New(rand.NewSource(113))
	valid := 0
	for range 6000 {
		d, op := anyDisk(source), anyOp(source)
		checkDisk(t, "any disk", d, validDisk(d))
		if validDisk(d) {
			valid++
		}
		want, code := doneBy(d, op)
		checkDo(t, "any disk", d, op, code, want.Live)
		var keep []int64
		for range source.Intn(4) {
			keep = append(keep, anyNumber(source))
		}
		if source.Intn(2) == 0 {
			slices.Sort(keep)
		}
		torn := anyNumber(source)
		e, ok := crashedTo(d, keep, torn)
		checkCrash(t, "any disk", d, keep, torn, ok, e.Live)
		checkReplace(t, "any disk", d, anyText(source), op.Data)
	}
	if valid < 1500 || valid > 4500 {
		t.Errorf("%d disks are valid", valid)
	}
}

func TestLongDisks(t *testing.T) {
	checkInvalid(t, "many files", synced(manyFiles(100000)))
	checkInvalid(t, "many nameless files", impl.Disk{Live: make([]impl.File, 100000), Safe: make([]impl.File, 100000), Ops: make([]impl.DOp, 100000)})
	long := slices.Repeat([]impl.DOp{appending("a", "")}, 100000)
	checkInvalid(t, "many operations", impl.Disk{Live: filesOf("a", ""), Ops: long})
	data := strings.Repeat("d", 200000)
	var ops []impl.DOp
	for range 100 {
		ops = append(ops, appending("a", data), removing("a"))
	}
	heavy := impl.Disk{Ops: ops}
	var appends []int64
	for i := range int64(100) {
		appends = append(appends, 2*i)
	}
	if e, ok := impl.Crash(heavy, appends, 5); ok || !sameDisk(e, impl.Disk{}) || !impl.DiskOk(heavy) {
		t.Error("heavy operations:", brief(e), ok)
	}
}

// disksFrom returns all that the functions of chapter 11 return for a disk.
func disksFrom(d impl.Disk) []any {
	added, addedCode := impl.Do(d, appending("aa", "bb"))
	refused, refusedCode := impl.Do(d, removing("nowhere"))
	wrong, wrongCode := impl.Do(d, impl.DOp{Kind: 9})
	renamed, renamedCode := impl.Do(d, renaming("aa", "cc"))
	crashed, crashedOk := impl.Crash(d, []int64{0, 2}, 1)
	kept, keptOk := impl.Crash(d, []int64{0, 1, 2}, 99)
	none, noneOk := impl.Crash(d, []int64{7}, 99)
	replaced, replacedCode := impl.Replace(d, "aa", "new")
	unreplaced, unreplacedCode := impl.Replace(d, "", "new")
	data, dataOk := impl.ReadFile(d, "aa")
	return []any{
		impl.DiskOk(d), added, addedCode, refused, refusedCode, wrong, wrongCode, renamed, renamedCode, crashed, crashedOk, kept, keptOk, none, noneOk,
		replaced, replacedCode, unreplaced, unreplacedCode, impl.Sync(d), data, dataOk,
	}
}

// spoilDisk overwrites everything that a disk refers to.
func spoilDisk(d impl.Disk) {
	for _, l := range [][]impl.File{d.Live[:cap(d.Live)], d.Safe[:cap(d.Safe)]} {
		for i := range l {
			l[i] = impl.File{Name: "spoilt"}
		}
	}
	ops := d.Ops[:cap(d.Ops)]
	for i := range ops {
		ops[i] = impl.DOp{Kind: -1}
	}
}

func TestDisksLeaveTheirArguments(t *testing.T) {
	plain := unsynced(filesOf("aa", "11", "bb", "22"), appending("aa", "33"), renaming("bb", "dd"), appending("ee", "44"))
	invalid := plain
	invalid.Live = filesOf("aa", "11")
	for i, original := range []impl.Disk{plain, synced(plain.Live), invalid, {}} {
		d := withSpare(reflect.ValueOf(original)).Interface().(impl.Disk)
		before := atFullLength(reflect.ValueOf(d)).Interface()
		first, second := disksFrom(d), disksFrom(d)
		if after := atFullLength(reflect.ValueOf(d)).Interface(); !reflect.DeepEqual(before, after) {
			t.Errorf("the disk %d changed from\n%s to\n%s", i, brief(before), brief(after))
		}
		if !reflect.DeepEqual(first, second) || !reflect.DeepEqual(first, disksFrom(original)) {
			t.Errorf("the disk %d: equal arguments lead to\n%s and\n%s", i, brief(first), brief(second))
		}
		checkApart(t, slices.Concat([]any{d}, first, second)...)
		checkTextsApart(t, d, first...)
		for _, result := range first {
			if e, ok := result.(impl.Disk); ok {
				spoilDisk(e)
			}
		}
		if third := disksFrom(d); !reflect.DeepEqual(third, second) {
			t.Errorf("the disk %d: a result that is written into changes\n%s to\n%s", i, brief(second), brief(third))
		}
	}
	keep := []int64{0, 2, -9, -9}
	impl.Crash(plain, keep[:2], 1)
	if !slices.Equal(keep, []int64{0, 2, -9, -9}) {
		t.Error("keep:", keep)
	}
}

func TestNumbersOfDisksAndJournals(t *testing.T) {
	for name, r := range map[string]struct{ got, want []int64 }{
		"limits":  {[]int64{impl.MaxFiles, impl.MaxBytes, impl.MaxOps}, []int64{60, 200000, 200}},
		"kinds":   {[]int64{impl.DkAppend, impl.DkRename, impl.DkRemove}, []int64{1, 2, 3}},
		"codes":   {[]int64{impl.DkOk, impl.DkDisk, impl.DkForm, impl.DkNone, impl.DkFull}, []int64{0, 1, 2, 3, 4}},
		"actions": {[]int64{impl.AcNew, impl.AcAdd, impl.AcOpen, impl.AcCrash}, []int64{1, 2, 3, 4}},
		"of them": {[]int64{impl.StOk, impl.StDisk, impl.StNone, impl.StForm, impl.StFull, impl.StPower, impl.StTorn}, []int64{0, 1, 2, 3, 4, 5, 6}},
	} {
		if !slices.Equal(r.got, r.want) {
			t.Errorf("%s: %v, not %v", name, r.got, r.want)
		}
	}
}
