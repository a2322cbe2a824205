package tests

import (
	"cmp"
	"math"
	"slices"
	"strconv"
	"strings"
	"testing"

	"loop.example/g00660/impl"
)

const (
	maxFiles = 60
	maxBytes = 200000
	maxOps   = 200
)

func appendOp(name string, data string) impl.DOp {
	return impl.DOp{Kind: impl.DkAppend, Name: name, Data: data}
}

func renameOp(name string, to string) impl.DOp {
	return impl.DOp{Kind: impl.DkRename, Name: name, To: to}
}

func removeOp(name string) impl.DOp { return impl.DOp{Kind: impl.DkRemove, Name: name} }

func sameDisk(a impl.Disk, b impl.Disk) bool {
	return slices.Equal(a.Live, b.Live) && slices.Equal(a.Safe, b.Safe) && slices.Equal(a.Ops, b.Ops)
}

func copyOfDisk(d impl.Disk) impl.Disk {
	return impl.Disk{Live: slices.Clone(d.Live), Safe: slices.Clone(d.Safe), Ops: slices.Clone(d.Ops)}
}

// shortDisk is what a failing test prints: the texts may be long.
func shortDisk(d impl.Disk) impl.Disk {
	short := copyOfDisk(d)
	for _, files := range [][]impl.File{short.Live, short.Safe} {
		for i, f := range files {
			files[i] = impl.File{Name: shortText(f.Name), Data: shortText(f.Data)}
		}
	}
	for i, op := range short.Ops {
		short.Ops[i] = shortOp(op)
	}
	return short
}

func shortOp(op impl.DOp) impl.DOp {
	return impl.DOp{Kind: op.Kind, Name: shortText(op.Name), To: shortText(op.To), Data: shortText(op.Data)}
}

func shortText(s string) string {
	if len(s) <= 120 {
		return strconv.Quote(s)
	}
	return strconv.Quote(s[:120]) + ".."
}

func wantDisk(t *testing.T, what string, got impl.Disk, want impl.Disk) {
	t.Helper()
	if !sameDisk(got, want) {
		t.Errorf("%s = %v; want %v", what, shortDisk(got), shortDisk(want))
	}
}

func syncedDisk(files ...impl.File) impl.Disk {
	return impl.Disk{Live: slices.Clone(files), Safe: slices.Clone(files)}
}

// someFiles has as many files as asked for, in order, each with some data.
func someFiles(count int, data string) []impl.File {
	var files []impl.File
	for i := range count {
		files = append(files, impl.File{Name: string(rune('A'+i/26)) + string(rune('a'+i%26)), Data: data})
	}
	return files
}

func zeros(n int) string { return strings.Repeat("0", n) }

// fileNames have the lengths that are allowed, and all kinds of bytes.
func fileNames() []string {
	return []string{"a", "ab", "b", "\x00", "\xff", " ", "log.new", "/", "ä", zeros(99), zeros(100), strings.Repeat("\xff", 100)}
}

func notFileNames() []string {
	return []string{"", zeros(101), zeros(102), patterned(200), zeros(100000)}
}

// The functions down to expectedDo say in other words than the program what operations do.

func dataOf(files []impl.File, name string) (string, bool) {
	for _, f := range files {
		if f.Name == name {
			return f.Data, true
		}
	}
	return "", false
}

func without(files []impl.File, name string) []impl.File {
	return slices.DeleteFunc(slices.Clone(files), func(f impl.File) bool { return f.Name == name })
}

func with(files []impl.File, name string, data string) []impl.File {
	list := append(without(files, name), impl.File{Name: name, Data: data})
	slices.SortFunc(list, func(a, b impl.File) int { return cmp.Compare(a.Name, b.Name) })
	return list
}

func effect(files []impl.File, op impl.DOp) []impl.File {
	data, found := dataOf(files, op.Name)
	switch {
	case op.Kind == impl.DkAppend:
		return with(files, op.Name, data+op.Data)
	case !found:
		return files
	case op.Kind == impl.DkRename:
		return with(without(files, op.Name), op.To, data)
	}
	return without(files, op.Name)
}

func tooMany(files []impl.File) bool {
	total := 0
	for _, f := range files {
		total += len(f.Data)
	}
	return len(files) > maxFiles || total > maxBytes
}

func formOf(op impl.DOp) bool {
	ok := func(name string) bool { return len(name) > 0 && len(name) <= 100 }
	switch op.Kind {
	case impl.DkAppend:
		return ok(op.Name) && op.To == ""
	case impl.DkRename:
		return ok(op.Name) && ok(op.To) && op.Data == ""
	case impl.DkRemove:
		return ok(op.Name) && op.To+op.Data == ""
	}
	return false
}

func expectedDo(d impl.Disk, op impl.DOp) (impl.Disk, int64) {
	if !formOf(op) {
		return d, impl.DkForm
	}
	if _, found := dataOf(d.Live, op.Name); !found && op.Kind != impl.DkAppend {
		return d, impl.DkNone
	}
	live := effect(d.Live, op)
	if len(d.Ops) == maxOps || tooMany(live) {
		return d, impl.DkFull
	}
	return impl.Disk{Live: live, Safe: d.Safe, Ops: append(slices.Clone(d.Ops), op)}, impl.DkOk
}

func expectedCrash(d impl.Disk, keep []int64, torn int64) (impl.Disk, bool) {
	files := d.Safe
	for i, index := range keep {
		op := d.Ops[index]
		if i == len(keep)-1 && torn < int64(len(op.Data)) {
			op.Data = op.Data[:torn]
		}
		files = effect(files, op)
	}
	if tooMany(files) {
		return impl.Disk{}, false
	}
	return syncedDisk(files...), true
}

func expectedReplace(d impl.Disk, name string, data string) (impl.Disk, int64) {
	next := d
	ops := []impl.DOp{removeOp(name + ".new"), appendOp(name+".new", data), renameOp(name+".new", name)}
	if _, found := dataOf(d.Live, name+".new"); !found {
		ops = ops[1:]
	}
	for _, op := range ops {
		after, code := expectedDo(next, op)
		if code != impl.DkOk {
			return d, code
		}
		next = after
	}
	return next, impl.DkOk
}

func wantDo(t *testing.T, d impl.Disk, op impl.DOp, want impl.Disk, code int64) {
	t.Helper()
	before := copyOfDisk(d)
	got, gotCode := impl.Do(d, op)
	if gotCode != code || !sameDisk(got, want) {
		t.Errorf("Do(%v, %v) = %v, %d; want %v, %d", shortDisk(d), shortOp(op), shortDisk(got), gotCode, shortDisk(want), code)
	}
	wantDisk(t, "the argument of Do", d, before)
}

func wantNotDone(t *testing.T, d impl.Disk, op impl.DOp, code int64) {
	t.Helper()
	wantDo(t, d, op, d, code)
}

// do performs operations that must not be rejected.
func do(t *testing.T, d impl.Disk, ops ...impl.DOp) impl.Disk {
	t.Helper()
	for _, op := range ops {
		want, code := expectedDo(d, op)
		wantDo(t, d, op, want, code)
		if code != impl.DkOk || !impl.DiskOk(want) || t.Failed() {
			t.Fatalf("Do(%v, %v) has the code %d", shortDisk(d), shortOp(op), code)
		}
		d = want
	}
	return d
}

func wantCrash(t *testing.T, d impl.Disk, keep []int64, torn int64, want impl.Disk) {
	t.Helper()
	if got, ok := impl.Crash(d, keep, torn); !sameDisk(got, want) || !ok {
		t.Errorf("Crash(%v, %v, %d) = %v, %t; want %v, true", shortDisk(d), keep, torn, shortDisk(got), ok, shortDisk(want))
	}
}

func wantNoCrash(t *testing.T, d impl.Disk, keep []int64, torn int64) {
	t.Helper()
	if got, ok := impl.Crash(d, keep, torn); !sameDisk(got, impl.Disk{}) || ok {
		t.Errorf("Crash(%v, %v, %d) = %v, %t; want the zero value, false", shortDisk(d), keep, torn, shortDisk(got), ok)
	}
}

func wantReplace(t *testing.T, d impl.Disk, name string, data string, code int64) impl.Disk {
	t.Helper()
	before := copyOfDisk(d)
	want, wantCode := expectedReplace(d, name, data)
	got, gotCode := impl.Replace(d, name, data)
	if gotCode != code || wantCode != code || !sameDisk(got, want) {
		t.Errorf("Replace(%v, %v, %v) = %v, %d; want %v, %d", shortDisk(d), shortText(name), shortText(data), shortDisk(got), gotCode, shortDisk(want), code)
	}
	wantDisk(t, "the argument of Replace", d, before)
	return got
}

func wantFile(t *testing.T, d impl.Disk, name string, data string) {
	t.Helper()
	if got, ok := impl.ReadFile(d, name); got != data || !ok {
		t.Errorf("ReadFile(%v, %v) = %v, %t; want %v, true", shortDisk(d), shortText(name), shortText(got), ok, shortText(data))
	}
}

func wantNoFile(t *testing.T, d impl.Disk, name string) {
	t.Helper()
	if got, ok := impl.ReadFile(d, name); got != "" || ok {
		t.Errorf("ReadFile(%v, %v) = %v, %t; want nothing, false", shortDisk(d), shortText(name), shortText(got), ok)
	}
}

// kept calls f with each part of the indexes of a list.
func kept(count int, f func(keep []int64)) {
	for bits := range 1 << count {
		var keep []int64
		for i := range count {
			if bits>>i&1 == 1 {
				keep = append(keep, int64(i))
			}
		}
		f(keep)
	}
}

func allIndexes(count int) []int64 {
	var keep []int64
	for i := range count {
		keep = append(keep, int64(i))
	}
	return keep
}

func randomName(d *dice) string {
	return []string{"a", "b", "b.new", "c", "log", "log.new"}[d.roll(6)]
}

func randomOp(d *dice) impl.DOp {
	op := impl.DOp{Kind: 1 + d.roll(3), Name: randomName(d)}
	switch op.Kind {
	case impl.DkAppend:
		op.Data = patterned(int(d.roll(9)))
	case impl.DkRename:
		op.To = randomName(d)
	}
	switch d.roll(30) {
	case 0:
		op.Kind = 4 * d.roll(2)
	case 1:
		op.Name = notFileNames()[d.roll(4)]
	case 2:
		op.To = notFileNames()[d.roll(4)]
	case 3:
		op.Data = "unnamed"
	}
	return op
}

// randomDisk has files that remain, and operations that were performed since then.
func randomDisk(t *testing.T, d *dice, count int64) impl.Disk {
	t.Helper()
	disk := impl.Disk{}
	for range 2 {
		disk.Safe, disk.Ops = disk.Live, nil
		for range count {
			disk, _ = expectedDo(disk, randomOp(d))
		}
	}
	if !impl.DiskOk(disk) {
		t.Fatalf("DiskOk(%v) = false", shortDisk(disk))
	}
	return disk
}

// diskWithOps has some operations that were not synchronized, and files named a and b.
func diskWithOps(count int) impl.Disk {
	d := impl.Disk{Live: []impl.File{{Name: "a", Data: zeros(count)}, {Name: "b"}}, Safe: []impl.File{{Name: "a"}, {Name: "b"}}}
	for range count {
		d.Ops = append(d.Ops, appendOp("a", "0"))
	}
	return d
}

// exampleDisk is that of the chapter.
func exampleDisk(t *testing.T) impl.Disk {
	t.Helper()
	d := impl.Sync(do(t, impl.Disk{}, appendOp("log", "ab")))
	return do(t, d, appendOp("log", "cd"), appendOp("b", "x"))
}

func disks(t *testing.T) []impl.Disk {
	t.Helper()
	limits := []impl.File{}
	for _, name := range fileNames() {
		limits = with(limits, name, name)
	}
	list := []impl.Disk{
		{}, exampleDisk(t), syncedDisk(impl.File{Name: "a"}), syncedDisk(limits...), {Safe: someFiles(1, "x"), Ops: []impl.DOp{removeOp("Aa")}},
		syncedDisk(someFiles(maxFiles, "x")...), syncedDisk(someFiles(50, zeros(4000))...), syncedDisk(impl.File{Name: "a", Data: zeros(maxBytes)}),
		diskWithOps(1), diskWithOps(199), diskWithOps(200),
		do(t, syncedDisk(someFiles(5, "x")...), renameOp("Aa", "Ab"), renameOp("Ab", "Ab"), removeOp("Ac"), appendOp("Ac", ""), renameOp("Ad", "Zz")),
	}
	d := dice{state: 100}
	for range 40 {
		list = append(list, randomDisk(t, &d, d.roll(12)))
	}
	return list
}

// badFiles are lists of files that are not valid, each for one reason.
func badFiles() [][]impl.File {
	list := [][]impl.File{
		someFiles(61, ""), someFiles(62, "x"), someFiles(500, ""),
		{{Name: "a", Data: zeros(200001)}}, {{Name: "a", Data: zeros(100001)}, {Name: "b", Data: zeros(100000)}}, append(someFiles(50, zeros(4000)), impl.File{Name: "z", Data: "0"}),
		{{Name: "a"}, {Name: "a"}}, {{Name: "b"}, {Name: "a"}}, {{Name: "a", Data: "x"}, {Name: "c"}, {Name: "b"}}, {{Name: "a"}, {Name: "b"}, {Name: "b"}, {Name: "c"}},
		{{Name: "ab"}, {Name: "a"}}, {{Name: "a"}, {Name: "Z"}}, {{Name: "\xff"}, {Name: "\x7f"}}, {{}}, {{Data: "x"}, {Name: "a"}},
	}
	for _, name := range notFileNames() {
		list = append(list, []impl.File{{Name: name}}, slices.Insert(someFiles(3, "x"), 0, impl.File{Name: name, Data: "x"}), append(someFiles(3, "x"), impl.File{Name: name}))
	}
	return list
}

// badOps are operations whose form is not valid, each for one reason.
func badOps() []impl.DOp {
	var list []impl.DOp
	for _, kind := range []int64{0, 4, 5, -1, 1 << 32, math.MaxInt64, math.MinInt64} {
		list = append(list, impl.DOp{Kind: kind, Name: "a"}, impl.DOp{Kind: kind, Name: "a", To: "b"}, impl.DOp{Kind: kind, Name: "a", Data: "x"})
	}
	for _, name := range notFileNames() {
		list = append(list, appendOp(name, "x"), appendOp(name, ""), renameOp(name, "b"), renameOp("a", name), renameOp(name, name), removeOp(name))
	}
	for _, text := range []string{"a", "b", "\x00", zeros(101), zeros(maxBytes)} {
		list = append(list,
			impl.DOp{Kind: impl.DkAppend, Name: "a", To: text}, impl.DOp{Kind: impl.DkAppend, Name: "a", To: text, Data: "x"}, impl.DOp{Kind: impl.DkRename, Name: "a", To: "b", Data: text},
			impl.DOp{Kind: impl.DkRemove, Name: "a", To: text}, impl.DOp{Kind: impl.DkRemove, Name: "a", Data: text})
	}
	return append(list, impl.DOp{})
}

// unmadeDisks have valid files and operations, but these do not make Live out of Safe.
func unmadeDisks(t *testing.T) []impl.Disk {
	t.Helper()
	files := []impl.File{{Name: "a", Data: "1"}, {Name: "b", Data: "2"}}
	list := []impl.Disk{
		{Live: files}, {Safe: files}, {Live: files, Safe: files[:1]}, {Live: files[:1], Safe: files}, {Live: files, Safe: []impl.File{{Name: "a", Data: "1"}, {Name: "b", Data: "3"}}},
		{Live: files, Safe: []impl.File{{Name: "a", Data: "1"}, {Name: "c", Data: "2"}}}, {Live: files, Safe: files, Ops: []impl.DOp{appendOp("a", "1")}},
		{Live: files, Safe: files, Ops: []impl.DOp{removeOp("a")}}, {Live: files, Ops: []impl.DOp{appendOp("a", "1"), appendOp("b", "3")}},
		{Live: files[:1], Safe: files[1:], Ops: []impl.DOp{renameOp("b", "a")}}, {Live: files, Ops: []impl.DOp{appendOp("b", "2")}},
	}
	d := do(t, syncedDisk(files...), appendOp("a", "3"), renameOp("a", "c"), appendOp("a", "4"), removeOp("b"), appendOp("c", "5"))
	for i := range d.Ops {
		shorter, changed, repeated := copyOfDisk(d), copyOfDisk(d), copyOfDisk(d)
		shorter.Ops = slices.Delete(shorter.Ops, i, i+1)
		changed.Ops[i].Name = "d"
		repeated.Ops = slices.Insert(repeated.Ops, i, repeated.Ops[i])
		list = append(list, shorter, changed, repeated)
		if i > 0 && i < 3 {
			swapped := copyOfDisk(d)
			swapped.Ops[i], swapped.Ops[i-1] = swapped.Ops[i-1], swapped.Ops[i]
			list = append(list, swapped)
		}
	}
	return list
}

// notDisks have in one place what a disk may not have.
func notDisks(t *testing.T) []impl.Disk {
	t.Helper()
	list := append(unmadeDisks(t), diskWithOps(201), diskWithOps(202), diskWithOps(5000))
	for _, files := range badFiles() {
		list = append(list, syncedDisk(files...), impl.Disk{Live: files}, impl.Disk{Safe: files})
	}
	// Operations that would make Live out of Safe, if all were performed:
	files := []impl.File{{Name: "a", Data: "1"}, {Name: "b", Data: "2"}}
	for _, op := range badOps() {
		list = append(list, impl.Disk{Live: files, Safe: files, Ops: []impl.DOp{op}}, impl.Disk{Live: effect(files, op), Safe: files, Ops: []impl.DOp{op}})
	}
	list = append(list,
		impl.Disk{Live: files, Safe: files, Ops: []impl.DOp{removeOp("c")}}, impl.Disk{Live: files, Safe: files, Ops: []impl.DOp{renameOp("c", "d")}},
		impl.Disk{Live: files, Safe: files, Ops: []impl.DOp{renameOp("c", "c")}}, impl.Disk{Live: files, Safe: files, Ops: []impl.DOp{appendOp("c", ""), removeOp("c"), removeOp("c")}},
		// the files exceed a limit in between,
		impl.Disk{Live: someFiles(60, ""), Safe: someFiles(60, ""), Ops: []impl.DOp{appendOp("Zz", ""), removeOp("Zz")}},
		impl.Disk{Live: files, Safe: files, Ops: []impl.DOp{appendOp("c", zeros(maxBytes-1)), removeOp("c")}},
		impl.Disk{Live: files, Safe: files, Ops: []impl.DOp{appendOp("c", zeros(maxBytes-2)), appendOp("d", "0"), removeOp("c"), removeOp("d")}},
		// and at first.
		impl.Disk{Live: someFiles(60, ""), Safe: append(someFiles(60, ""), impl.File{Name: "Zz"}), Ops: []impl.DOp{removeOp("Zz")}},
		impl.Disk{Live: files, Safe: append(files, impl.File{Name: "c", Data: zeros(maxBytes)}), Ops: []impl.DOp{removeOp("c")}},
		impl.Disk{Live: files, Safe: []impl.File{files[1], files[0]}, Ops: []impl.DOp{renameOp("a", "a")}},
		impl.Disk{Live: []impl.File{{Name: "a"}}, Safe: []impl.File{{Name: "a"}, {Name: "b"}, {Name: "b"}}, Ops: []impl.DOp{removeOp("b")}},
		impl.Disk{Live: files, Safe: []impl.File{files[0], files[0], files[1]}, Ops: []impl.DOp{renameOp("a", "a")}})
	return list
}

func TestDiskConstants(t *testing.T) {
	got := []int64{impl.MaxFiles, impl.MaxBytes, impl.MaxOps, impl.DkAppend, impl.DkRename, impl.DkRemove, impl.DkOk, impl.DkDisk, impl.DkForm, impl.DkNone, impl.DkFull}
	if want := []int64{60, 200000, 200, 1, 2, 3, 0, 1, 2, 3, 4}; !slices.Equal(got, want) {
		t.Errorf("the limits, kinds and codes are %v; want %v", got, want)
	}
}

func TestDiskOkOfDisks(t *testing.T) {
	for _, d := range disks(t) {
		if !impl.DiskOk(d) {
			t.Errorf("DiskOk(%v) = false", shortDisk(d))
		}
	}
	for _, name := range fileNames() {
		d := syncedDisk(impl.File{Name: name, Data: name})
		e := do(t, d, appendOp(name, "x"), renameOp(name, "new"), renameOp("new", name), removeOp(name))
		if !impl.DiskOk(d) || !impl.DiskOk(e) {
			t.Errorf("DiskOk of a disk with the file %v = false", shortText(name))
		}
	}
}

func TestDisksThatAreNotValid(t *testing.T) {
	for _, d := range notDisks(t) {
		if impl.DiskOk(d) {
			t.Errorf("DiskOk(%v) = true", shortDisk(d))
		}
		for _, op := range []impl.DOp{{}, appendOp("a", "x"), appendOp("", "x"), appendOp("a", zeros(200001)), renameOp("a", "b"), removeOp("a"), removeOp("none")} {
			wantDo(t, d, op, impl.Disk{}, impl.DkDisk)
		}
		wantDisk(t, "Sync of a disk that is not valid", impl.Sync(d), impl.Disk{})
		for _, keep := range [][]int64{nil, {0}, allIndexes(len(d.Ops)), {-1}} {
			wantNoCrash(t, d, keep, 0)
			wantNoCrash(t, d, keep, maxBytes)
			wantNoCrash(t, d, keep, -1)
		}
		for _, name := range []string{"a", "b", "Aa", "none", ""} {
			wantNoFile(t, d, name)
			if got, code := impl.Replace(d, name, "x"); !sameDisk(got, impl.Disk{}) || code != impl.DkDisk {
				t.Errorf("Replace of a file of %v = %v, %d", shortDisk(d), shortDisk(got), code)
			}
		}
		if t.Failed() {
			return
		}
	}
}

func TestDiskExamples(t *testing.T) {
	d := exampleDisk(t)
	wantDisk(t, "the disk of the examples", d, impl.Disk{
		Live: []impl.File{{Name: "b", Data: "x"}, {Name: "log", Data: "abcd"}}, Safe: []impl.File{{Name: "log", Data: "ab"}},
		Ops: []impl.DOp{appendOp("log", "cd"), appendOp("b", "x")},
	})
	wantCrash(t, d, []int64{0}, 1, syncedDisk(impl.File{Name: "log", Data: "abc"}))
	wantFile(t, d, "log", "abcd")
	e := wantReplace(t, impl.Sync(d), "log", "new", impl.DkOk)
	wantFile(t, e, "log", "new")
	wantDisk(t, "the disk after Replace", e, impl.Disk{
		Live: []impl.File{{Name: "b", Data: "x"}, {Name: "log", Data: "new"}}, Safe: []impl.File{{Name: "b", Data: "x"}, {Name: "log", Data: "abcd"}},
		Ops: []impl.DOp{appendOp("log.new", "new"), renameOp("log.new", "log")},
	})
}

func TestAppend(t *testing.T) {
	d := syncedDisk(impl.File{Name: "b", Data: "1"}, impl.File{Name: "d", Data: ""})
	for _, data := range []string{"", "x", "\x00\xff", patterned(1000), zeros(199999)} {
		for _, name := range append(fileNames(), "b", "d", "c", "e") {
			old, _ := dataOf(d.Safe, name)
			e := do(t, d, appendOp(name, data))
			wantFile(t, e, name, old+data)
			wantDisk(t, "the rest of the disk", impl.Disk{Safe: e.Safe, Ops: e.Ops}, impl.Disk{Safe: d.Safe, Ops: []impl.DOp{appendOp(name, data)}})
		}
	}
	e := do(t, impl.Disk{}, appendOp("c", "1"), appendOp("a", ""), appendOp("b", "2"), appendOp("c", "3"), appendOp("a", "4"))
	wantDisk(t, "a disk after some appends", impl.Disk{Live: e.Live}, impl.Disk{Live: []impl.File{{Name: "a", Data: "4"}, {Name: "b", Data: "2"}, {Name: "c", Data: "13"}}})
}

func TestRename(t *testing.T) {
	d := syncedDisk(impl.File{Name: "b", Data: "1"}, impl.File{Name: "d", Data: "2"}, impl.File{Name: "f"})
	for _, c := range []struct {
		name, to string
		want     []impl.File
	}{
		{"b", "b", d.Live},
		{"f", "f", d.Live},
		{"b", "d", []impl.File{{Name: "d", Data: "1"}, {Name: "f"}}},
		{"d", "b", []impl.File{{Name: "b", Data: "2"}, {Name: "f"}}},
		{"f", "b", []impl.File{{Name: "b"}, {Name: "d", Data: "2"}}},
		{"d", "f", []impl.File{{Name: "b", Data: "1"}, {Name: "f", Data: "2"}}},
		{"b", "a", []impl.File{{Name: "a", Data: "1"}, {Name: "d", Data: "2"}, {Name: "f"}}},
		{"b", "e", []impl.File{{Name: "d", Data: "2"}, {Name: "e", Data: "1"}, {Name: "f"}}},
		{"d", "z", []impl.File{{Name: "b", Data: "1"}, {Name: "f"}, {Name: "z", Data: "2"}}},
		{"b", zeros(100), []impl.File{{Name: zeros(100), Data: "1"}, {Name: "d", Data: "2"}, {Name: "f"}}},
	} {
		wantDo(t, d, renameOp(c.name, c.to), impl.Disk{Live: c.want, Safe: d.Safe, Ops: []impl.DOp{renameOp(c.name, c.to)}}, impl.DkOk)
	}
	e := do(t, d, renameOp("b", "x"), renameOp("d", "b"), renameOp("x", "d"))
	wantDisk(t, "a disk after two files changed places", impl.Disk{Live: e.Live}, impl.Disk{Live: []impl.File{{Name: "b", Data: "2"}, {Name: "d", Data: "1"}, {Name: "f"}}})
	wantNotDone(t, e, renameOp("x", "y"), impl.DkNone)
}

func TestRemove(t *testing.T) {
	d := syncedDisk(someFiles(4, "x")...)
	for i, f := range d.Live {
		want := impl.Disk{Live: slices.Delete(slices.Clone(d.Live), i, i+1), Safe: d.Safe, Ops: []impl.DOp{removeOp(f.Name)}}
		wantDo(t, d, removeOp(f.Name), want, impl.DkOk)
		wantNoFile(t, want, f.Name)
		wantNotDone(t, want, removeOp(f.Name), impl.DkNone)
		wantFile(t, do(t, want, appendOp(f.Name, "new")), f.Name, "new")
	}
}

func TestOpsWhoseFormIsNotValid(t *testing.T) {
	list := []impl.Disk{{}, syncedDisk(impl.File{Name: "a", Data: "1"}, impl.File{Name: "b"}), diskWithOps(200), syncedDisk(someFiles(60, zeros(3333))...)}
	for _, op := range badOps() {
		for _, d := range list {
			wantNotDone(t, d, op, impl.DkForm)
		}
	}
	for _, op := range []impl.DOp{appendOp("", zeros(200001)), {Kind: impl.DkAppend, Name: "Zz", To: "x", Data: zeros(200001)}, renameOp("none", ""), {Kind: impl.DkRemove, Name: "none", To: "x"}} {
		for _, d := range list {
			wantNotDone(t, d, op, impl.DkForm)
		}
	}
}

func TestOpsOnNoFile(t *testing.T) {
	removed := do(t, syncedDisk(impl.File{Name: "none", Data: "1"}), removeOp("none"))
	full := diskWithOps(200)
	for _, d := range []impl.Disk{{}, removed, full, syncedDisk(someFiles(60, zeros(3333))...), syncedDisk(impl.File{Name: "non"}, impl.File{Name: "none "}, impl.File{Name: "nonf"})} {
		wantNotDone(t, d, removeOp("none"), impl.DkNone)
		wantNotDone(t, d, renameOp("none", "a"), impl.DkNone)
		wantNotDone(t, d, renameOp("none", "none"), impl.DkNone)
		wantNotDone(t, d, removeOp(zeros(100)), impl.DkNone)
	}
}

func TestFullDisks(t *testing.T) {
	for _, op := range []impl.DOp{appendOp("a", ""), appendOp("c", "x"), renameOp("a", "a"), renameOp("a", "b"), renameOp("b", "c"), removeOp("b")} {
		wantNotDone(t, diskWithOps(200), op, impl.DkFull)
		do(t, diskWithOps(199), op)
	}
	files := syncedDisk(someFiles(60, "x")...)
	wantNotDone(t, files, appendOp("Zz", ""), impl.DkFull)
	wantNotDone(t, files, appendOp("Zz", "x"), impl.DkFull)
	do(t, files, appendOp("Aa", "x"), renameOp("Aa", "Zz"), renameOp("Ab", "Ac"), appendOp("Zy", "x"), removeOp("Zz"), appendOp("Zz", ""))
	do(t, syncedDisk(someFiles(59, "x")...), appendOp("Zz", ""))
	for _, d := range []impl.Disk{syncedDisk(impl.File{Name: "a", Data: zeros(200000)}, impl.File{Name: "b"}), syncedDisk(impl.File{Name: "a", Data: zeros(150000)}, impl.File{Name: "b", Data: zeros(50000)})} {
		for _, name := range []string{"a", "b", "c"} {
			wantNotDone(t, d, appendOp(name, "0"), impl.DkFull)
			wantNotDone(t, d, appendOp(name, zeros(200000)), impl.DkFull)
			do(t, d, appendOp(name, ""))
		}
		do(t, d, renameOp("a", "c"), renameOp("c", "b"), removeOp("b"), appendOp("b", zeros(200000)))
	}
	almost := syncedDisk(impl.File{Name: "a", Data: zeros(199999)})
	wantNotDone(t, almost, appendOp("a", "00"), impl.DkFull)
	wantNotDone(t, almost, appendOp("b", "00"), impl.DkFull)
	do(t, almost, appendOp("a", "0"))
	do(t, almost, appendOp("b", "0"))
	wantNotDone(t, impl.Disk{}, appendOp("a", zeros(200001)), impl.DkFull)
	do(t, impl.Disk{}, appendOp("a", zeros(200000)))
}

func TestRandomOps(t *testing.T) {
	codes := map[int64]int{}
	for seed := range uint64(60) {
		d := dice{state: 1000 + seed}
		disk := impl.Disk{}
		for range 60 {
			op := randomOp(&d)
			want, code := expectedDo(disk, op)
			wantDo(t, disk, op, want, code)
			codes[code]++
			disk = want
			if d.roll(12) == 0 {
				wantDisk(t, "Sync", impl.Sync(disk), syncedDisk(disk.Live...))
				disk = impl.Sync(disk)
			}
			if t.Failed() || !impl.DiskOk(disk) {
				t.Fatalf("after Do with %v: %v", shortOp(op), shortDisk(disk))
			}
		}
	}
	if codes[impl.DkOk] == 0 || codes[impl.DkForm] == 0 || codes[impl.DkNone] == 0 {
		t.Errorf("codes of random operations: %v", codes)
	}
}

func TestSync(t *testing.T) {
	for _, d := range disks(t) {
		wantDisk(t, "Sync", impl.Sync(d), syncedDisk(d.Live...))
		wantDisk(t, "Sync of a synchronized disk", impl.Sync(impl.Sync(d)), syncedDisk(d.Live...))
	}
}

// All operations are kept, or none.
func TestCrashKeepsAllOrNothing(t *testing.T) {
	for _, d := range disks(t) {
		all := allIndexes(len(d.Ops))
		for _, torn := range []int64{maxBytes, maxBytes + 1, math.MaxInt64} {
			wantCrash(t, d, all, torn, syncedDisk(d.Live...))
		}
		if len(all) > 0 {
			wantCrash(t, d, all, int64(len(d.Ops[len(all)-1].Data)), syncedDisk(d.Live...))
		}
		for _, torn := range []int64{0, 1, maxBytes, math.MaxInt64} {
			wantCrash(t, d, nil, torn, syncedDisk(d.Safe...))
			wantCrash(t, d, []int64{}, torn, syncedDisk(d.Safe...))
		}
	}
}

func TestCrashKeepsAnything(t *testing.T) {
	d := dice{state: 1100}
	results := map[bool]int{}
	list := []impl.Disk{
		exampleDisk(t),
		do(t, syncedDisk(impl.File{Name: "a", Data: "1"}, impl.File{Name: "b", Data: "2"}), renameOp("a", "c"), removeOp("b"), appendOp("c", "345"), renameOp("c", "b"), appendOp("a", "678"), removeOp("b")),
		do(t, syncedDisk(someFiles(60, "x")...), removeOp("Aa"), appendOp("Zz", "12"), renameOp("Ab", "Ac"), appendOp("Zy", "")),
		do(t, impl.Disk{}, appendOp("a", zeros(150000)), removeOp("a"), appendOp("a", zeros(150000)), renameOp("a", "b"), removeOp("b")),
	}
	for range 30 {
		list = append(list, randomDisk(t, &d, 9))
	}
	for _, disk := range list {
		kept(len(disk.Ops), func(keep []int64) {
			for _, torn := range []int64{0, 1, 2, 3, 8, 9, 49999, 50000, 50001, 150000} {
				want, ok := expectedCrash(disk, keep, torn)
				results[ok]++
				if ok {
					wantCrash(t, disk, keep, torn, want)
				} else {
					wantNoCrash(t, disk, keep, torn)
				}
			}
		})
		if t.Failed() {
			return
		}
	}
	if results[true] == 0 || results[false] == 0 {
		t.Errorf("results of Crash: %v", results)
	}
}

func TestCrashOfTornAppends(t *testing.T) {
	d := do(t, syncedDisk(impl.File{Name: "a", Data: "1"}), appendOp("a", "234"), appendOp("b", "xyz"), removeOp("a"), appendOp("b", ""))
	one := func(data string) impl.Disk { return syncedDisk(impl.File{Name: "a", Data: data}) }
	two := func(a string, b string) impl.Disk {
		return syncedDisk(impl.File{Name: "a", Data: a}, impl.File{Name: "b", Data: b})
	}
	for torn, want := range []string{"1", "12", "123", "1234", "1234", "1234"} {
		wantCrash(t, d, []int64{0}, int64(torn), one(want))
	}
	for torn, want := range []string{"", "x", "xy", "xyz", "xyz"} {
		// An append of which nothing is kept has created its file all the same; only the last one is torn.
		wantCrash(t, d, []int64{1}, int64(torn), two("1", want))
		wantCrash(t, d, []int64{0, 1}, int64(torn), two("1234", want))
	}
	for torn := range int64(5) {
		wantCrash(t, d, []int64{0, 1, 2}, torn, syncedDisk(impl.File{Name: "b", Data: "xyz"}))
		wantCrash(t, d, []int64{0, 2}, torn, syncedDisk())
		wantCrash(t, d, []int64{0, 3}, torn, two("1234", ""))
		wantCrash(t, d, []int64{1, 3}, torn, two("1", "xyz"))
	}
}

func TestCrashWithoutTheFile(t *testing.T) {
	d := do(t, syncedDisk(impl.File{Name: "c", Data: "1"}), appendOp("a", "2"), renameOp("a", "b"), renameOp("b", "c"), removeOp("c"), appendOp("d", ""), removeOp("d"))
	only := syncedDisk(impl.File{Name: "c", Data: "1"})
	for _, keep := range [][]int64{{1}, {2}, {1, 2}, {5}, {1, 5}, {1, 2, 5}} {
		wantCrash(t, d, keep, 9, only)
	}
	wantCrash(t, d, []int64{0, 2}, 9, syncedDisk(impl.File{Name: "a", Data: "2"}, impl.File{Name: "c", Data: "1"}))
	wantCrash(t, d, []int64{0, 2, 3}, 9, syncedDisk(impl.File{Name: "a", Data: "2"}))
	wantCrash(t, d, []int64{1, 3, 5}, 9, syncedDisk())
	gone := do(t, syncedDisk(impl.File{Name: "a", Data: "1"}), renameOp("a", "b"), renameOp("b", "a"), removeOp("a"))
	wantCrash(t, gone, []int64{0, 2}, 9, syncedDisk(impl.File{Name: "b", Data: "1"}))
	wantCrash(t, gone, []int64{1}, 9, syncedDisk(impl.File{Name: "a", Data: "1"}))
	wantCrash(t, gone, []int64{1, 2}, 9, syncedDisk())
}

// Only the files that remain are limited, not those in between.
func TestCrashBeyondLimits(t *testing.T) {
	half := zeros(100001)
	d := do(t, impl.Disk{}, appendOp("a", half), removeOp("a"), appendOp("a", half), removeOp("a"), appendOp("a", ""))
	wantNoCrash(t, d, []int64{0, 2}, maxBytes)
	wantNoCrash(t, d, []int64{0, 2}, 100000)
	wantNoCrash(t, d, []int64{0, 2, 4}, 0)
	wantCrash(t, d, []int64{0, 2}, 99999, syncedDisk(impl.File{Name: "a", Data: zeros(200000)}))
	wantCrash(t, d, []int64{0, 2, 3}, 0, syncedDisk())
	wantCrash(t, d, []int64{0, 2, 3, 4}, 0, syncedDisk(impl.File{Name: "a"}))
	files := do(t, syncedDisk(someFiles(60, "")...), removeOp("Aa"), appendOp("Zz", ""), renameOp("Zz", "Ab"), removeOp("Ac"))
	wantNoCrash(t, files, []int64{1}, 0)
	wantCrash(t, files, []int64{1, 2}, 0, syncedDisk(someFiles(60, "")...))
	wantCrash(t, files, []int64{1, 3}, 0, syncedDisk(with(without(someFiles(60, ""), "Ac"), "Zz", "")...))
	var many impl.Disk
	for range 100 {
		many.Ops = append(many.Ops, appendOp("a", zeros(maxBytes)), removeOp("a"))
	}
	var appends []int64
	for i := range int64(100) {
		appends = append(appends, 2*i)
	}
	wantNoCrash(t, many, appends, maxBytes)
	wantNoCrash(t, many, appends[:2], 1)
	wantCrash(t, many, appends[:2], 0, syncedDisk(impl.File{Name: "a", Data: zeros(maxBytes)}))
	wantCrash(t, many, append(appends, 199), 0, impl.Disk{})
}

func TestCrashRejectsBadArguments(t *testing.T) {
	d := do(t, syncedDisk(impl.File{Name: "a", Data: "1"}), appendOp("a", "2"), appendOp("b", "3"), renameOp("a", "c"))
	for _, keep := range [][]int64{
		{0, 0}, {1, 1}, {2, 2}, {1, 0}, {2, 1}, {0, 2, 1}, {0, 1, 1}, {0, 1, 2, 2}, {0, 0, 1, 2}, {-1}, {-1, 0}, {3}, {0, 3}, {0, 1, 2, 3}, {4}, {0, -1},
		{math.MaxInt64}, {math.MinInt64}, {0, math.MaxInt64}, {1 << 32}, {math.MaxInt64, math.MinInt64}, make([]int64, 10000), allIndexes(10000),
	} {
		for _, torn := range []int64{0, 1, maxBytes, -1} {
			wantNoCrash(t, d, keep, torn)
		}
	}
	for _, torn := range []int64{-1, -2, math.MinInt64, -1 << 32} {
		kept(3, func(keep []int64) { wantNoCrash(t, d, keep, torn) })
		wantNoCrash(t, impl.Disk{}, nil, torn)
		wantNoCrash(t, syncedDisk(someFiles(3, "x")...), nil, torn)
	}
	wantNoCrash(t, impl.Disk{}, []int64{0}, 0)
	wantNoCrash(t, syncedDisk(someFiles(3, "x")...), []int64{0}, 0)
	wantNoCrash(t, diskWithOps(200), []int64{200}, 0)
	wantCrash(t, diskWithOps(200), []int64{199}, 1, syncedDisk(impl.File{Name: "a", Data: "0"}, impl.File{Name: "b"}))
}

func TestReadFile(t *testing.T) {
	for _, d := range disks(t) {
		for _, f := range d.Live {
			wantFile(t, d, f.Name, f.Data)
		}
		for _, name := range append(notFileNames(), "none", "a\x00", "A", "Aa ", "Safe") {
			wantNoFile(t, d, name)
		}
	}
	d := do(t, syncedDisk(impl.File{Name: "a", Data: "1"}, impl.File{Name: "b", Data: "2"}), removeOp("a"), renameOp("b", "c"), appendOp("c", "3"))
	wantNoFile(t, d, "a")
	wantNoFile(t, d, "b")
	wantFile(t, d, "c", "23")
}

func TestReplaceWithAndWithoutTemporaryFile(t *testing.T) {
	for _, d := range []impl.Disk{{}, syncedDisk(impl.File{Name: "a", Data: "old"}), syncedDisk(impl.File{Name: "a.new", Data: "left"}), syncedDisk(impl.File{Name: "a", Data: "old"}, impl.File{Name: "a.new", Data: "left"}, impl.File{Name: "b"}), exampleDisk(t)} {
		for _, data := range []string{"", "x", "new contents", patterned(5000)} {
			for _, name := range []string{"a", "log", "a.new", "\x00", zeros(95), zeros(96)} {
				e := wantReplace(t, d, name, data, impl.DkOk)
				wantFile(t, e, name, data)
				wantNoFile(t, e, name+".new")
				_, left := dataOf(d.Live, name+".new")
				if more := len(e.Ops) - len(d.Ops); left && more != 3 || !left && more != 2 {
					t.Errorf("Replace(%v, %v, ..) performs %d operations", shortDisk(d), shortText(name), more)
				}
			}
		}
	}
}

// What counts is whether the file that is read has the temporary name, not what is synchronized.
func TestReplaceWithUnsynchronizedTemporaryFile(t *testing.T) {
	d := syncedDisk(impl.File{Name: "a", Data: "old"}, impl.File{Name: "a.new", Data: "left"})
	for _, e := range []impl.Disk{do(t, d, removeOp("a.new")), do(t, d, renameOp("a.new", "b")), do(t, impl.Disk{}, appendOp("a.new", "left"))} {
		wantFile(t, wantReplace(t, e, "a", "new", impl.DkOk), "a", "new")
	}
}

func TestReplaceWithBadNames(t *testing.T) {
	left := syncedDisk(impl.File{Name: ".new", Data: "left"}, impl.File{Name: "a"})
	for _, d := range []impl.Disk{{}, syncedDisk(impl.File{Name: zeros(97), Data: "x"}, impl.File{Name: zeros(100), Data: "x"}), left, diskWithOps(198)} {
		for _, name := range []string{"", zeros(97), zeros(98), zeros(100), zeros(101), zeros(1000)} {
			wantReplace(t, d, name, "new", impl.DkForm)
		}
	}
	// The temporary file of "" has a valid name, so that only the last operation is rejected for its form.
	wantReplace(t, diskWithOps(199), "", "new", impl.DkForm)
	wantReplace(t, diskWithOps(200), "", "new", impl.DkFull)
	wantReplace(t, impl.Disk{}, "", zeros(200001), impl.DkFull)
	wantReplace(t, diskWithOps(200), zeros(97), "new", impl.DkForm)
	wantReplace(t, impl.Disk{}, zeros(97), zeros(200001), impl.DkForm)
}

func TestReplaceRejectedAtEachOp(t *testing.T) {
	withLeft := func(ops int) impl.Disk {
		d := diskWithOps(ops)
		d.Live, d.Safe = with(d.Live, "b.new", "left"), with(d.Safe, "b.new", "left")
		return d
	}
	for _, name := range []string{"b", "a", "c"} {
		for ops, code := range map[int]int64{197: impl.DkOk, 198: impl.DkOk, 199: impl.DkFull, 200: impl.DkFull} {
			wantReplace(t, diskWithOps(ops), name, "new", code)
		}
	}
	for ops, code := range map[int]int64{196: impl.DkOk, 197: impl.DkOk, 198: impl.DkFull, 199: impl.DkFull, 200: impl.DkFull} {
		wantReplace(t, withLeft(ops), "b", "new", code)
	}
	files := syncedDisk(someFiles(60, "x")...)
	wantReplace(t, files, "Aa", "new", impl.DkFull)
	wantReplace(t, files, "Zz", "new", impl.DkFull)
	wantReplace(t, syncedDisk(someFiles(59, "x")...), "Aa", "new", impl.DkOk)
	wantReplace(t, syncedDisk(with(someFiles(59, "x"), "Aa.new", "left")...), "Aa", "new", impl.DkOk)
	half := syncedDisk(impl.File{Name: "a", Data: zeros(100000)})
	wantReplace(t, half, "a", zeros(100000), impl.DkOk)
	wantReplace(t, half, "a", zeros(100001), impl.DkFull)
	left := syncedDisk(impl.File{Name: "a", Data: zeros(100000)}, impl.File{Name: "a.new", Data: zeros(100000)})
	wantReplace(t, left, "a", zeros(100000), impl.DkOk)
	wantReplace(t, left, "a", zeros(100001), impl.DkFull)
	wantReplace(t, left, "b", "0", impl.DkFull)
	wantReplace(t, left, "b", "", impl.DkOk)
}

// A file that is replaced has the old or the new contents after a loss of power.
func TestReplaceThenCrash(t *testing.T) {
	for _, d := range disks(t) {
		d = impl.Sync(d)
		for _, name := range []string{"a", "b", "log", "Aa", "Ac", "none"} {
			for _, data := range []string{"", "new", "longer than it was"} {
				old, existed := dataOf(d.Live, name)
				e, code := impl.Replace(d, name, data)
				if _, left := dataOf(d.Live, name+".new"); left || code != impl.DkOk {
					continue
				}
				kept(len(e.Ops), func(keep []int64) {
					for torn := range int64(len(data) + 2) {
						after, ok := impl.Crash(e, keep, torn)
						if !ok {
							t.Fatalf("Crash(%v, %v, %d) = false", shortDisk(e), keep, torn)
						}
						got, found := impl.ReadFile(after, name)
						if !(got == old && found == existed) && !(got == data && found) {
							t.Errorf("after Replace(%v, %v, %v) and Crash(%v, %d) the file is %v, %t", shortDisk(d), name, data, keep, torn, shortText(got), found)
						}
					}
				})
			}
		}
	}
}

// slackFiles is a list with spare capacity behind it, whose texts are in memory of their own.
func slackFiles(files []impl.File) []impl.File {
	list := append(slices.Clone(files), impl.File{Name: "behind", Data: "1"}, impl.File{Name: "behind", Data: "2"})
	for i, f := range list {
		list[i] = impl.File{Name: strings.Clone(f.Name), Data: strings.Clone(f.Data)}
	}
	return list[:len(files)]
}

func slackOps(ops []impl.DOp) []impl.DOp {
	list := append(slices.Clone(ops), appendOp("behind", "1"), appendOp("behind", "2"))
	for i, op := range list {
		list[i] = impl.DOp{Kind: op.Kind, Name: strings.Clone(op.Name), To: strings.Clone(op.To), Data: strings.Clone(op.Data)}
	}
	return list[:len(ops)]
}

func slackDisk(d impl.Disk) impl.Disk {
	return impl.Disk{Live: slackFiles(d.Live), Safe: slackFiles(d.Safe), Ops: slackOps(d.Ops)}
}

// withSpareOf is a copy of a disk in which the lists have what lies behind them too.
func withSpareOf(d impl.Disk) impl.Disk {
	return copyOfDisk(impl.Disk{Live: d.Live[:cap(d.Live)], Safe: d.Safe[:cap(d.Safe)], Ops: d.Ops[:cap(d.Ops)]})
}

func listsOfDisk(d impl.Disk) []place {
	return []place{placeOfList(d.Live), placeOfList(d.Safe), placeOfList(d.Ops)}
}

func textsOfDisk(d impl.Disk) []place {
	var places []place
	for _, f := range slices.Concat(d.Live, d.Safe) {
		places = append(places, placeOfText(f.Name), placeOfText(f.Data))
	}
	for _, op := range d.Ops {
		places = append(places, placeOfText(op.Name), placeOfText(op.To), placeOfText(op.Data))
	}
	return places
}

// wantNewDisk checks that no lists of the result share memory, and that it shares none with the arguments.
func wantNewDisk(t *testing.T, what string, result impl.Disk, argument impl.Disk, texts ...string) {
	t.Helper()
	lists := listsOfDisk(result)
	for i := range lists {
		wantApart(t, what+": two lists of the result", lists[:i], lists[i:i+1])
	}
	wantApart(t, what+": the result and the argument", lists, listsOfDisk(argument))
	places := textsOfDisk(argument)
	for _, s := range texts {
		places = append(places, placeOfText(s))
	}
	wantApart(t, what+": texts of the result and of the arguments", textsOfDisk(result), places)
}

func smallDisks(t *testing.T) []impl.Disk {
	t.Helper()
	return slices.DeleteFunc(disks(t), func(d impl.Disk) bool { return len(d.Live) > 12 || len(d.Ops) > 20 })
}

func TestDiskArgumentsAreKept(t *testing.T) {
	for _, given := range smallDisks(t) {
		d := slackDisk(given)
		before := withSpareOf(d)
		for _, op := range []impl.DOp{appendOp("a", "more"), appendOp("longer", ""), renameOp("log", "log"), renameOp("b", "other"), removeOp("a"), removeOp("none"), {}} {
			first, code := impl.Do(d, op)
			again, codeAgain := impl.Do(d, op)
			if !sameDisk(first, again) || code != codeAgain {
				t.Errorf("Do with equal arguments: %v, %d, then %v, %d", shortDisk(first), code, shortDisk(again), codeAgain)
			}
			wantNewDisk(t, "Do", first, d, op.Name, op.To, op.Data)
		}
		for _, name := range []string{"a", "log", "new name", ""} {
			data := strings.Clone("contents")
			first, code := impl.Replace(d, name, data)
			again, codeAgain := impl.Replace(d, name, data)
			if !sameDisk(first, again) || code != codeAgain {
				t.Errorf("Replace with equal arguments: %v, %d, then %v, %d", shortDisk(first), code, shortDisk(again), codeAgain)
			}
			wantNewDisk(t, "Replace", first, d, name, data)
			text, found := impl.ReadFile(d, name)
			if again, foundAgain := impl.ReadFile(d, name); again != text || foundAgain != found {
				t.Errorf("ReadFile with equal arguments: %v, %t, then %v, %t", text, found, again, foundAgain)
			}
			wantApart(t, "ReadFile", []place{placeOfText(text)}, textsOfDisk(d))
		}
		wantNewDisk(t, "Sync", impl.Sync(d), d)
		wantDisk(t, "Sync with equal arguments", impl.Sync(d), impl.Sync(d))
		keepCrash(t, d)
		if !impl.DiskOk(d) || !impl.DiskOk(d) {
			t.Errorf("DiskOk(%v) = false", shortDisk(d))
		}
		wantDisk(t, "the argument, with what lies behind it,", withSpareOf(d), before)
	}
}

func keepCrash(t *testing.T, d impl.Disk) {
	t.Helper()
	for count := range len(d.Ops) + 1 {
		behind := append(allIndexes(count), -7, 1000)
		keep, wantBehind := behind[:count], slices.Clone(behind)
		for _, torn := range []int64{0, 2, maxBytes} {
			first, ok := impl.Crash(d, keep, torn)
			again, okAgain := impl.Crash(d, keep, torn)
			if !sameDisk(first, again) || ok != okAgain {
				t.Errorf("Crash with equal arguments: %v, %t, then %v, %t", shortDisk(first), ok, shortDisk(again), okAgain)
			}
			wantNewDisk(t, "Crash", first, d)
		}
		if !slices.Equal(behind, wantBehind) {
			t.Errorf("the indexes are now %v; they were %v", behind, wantBehind)
		}
	}
}
