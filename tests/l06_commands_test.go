package tests

import (
	"math"
	"slices"
	"strings"
	"testing"

	"loop.example/g00660/impl"
)

var (
	undoCmd  = impl.Cmd{Kind: impl.CmUndo}
	redoCmd  = impl.Cmd{Kind: impl.CmRedo}
	clearCmd = impl.Cmd{Kind: impl.CmClear}
)

func addCmd(item string, qty int64) impl.Cmd {
	return impl.Cmd{Kind: impl.CmAdd, Item: item, Qty: qty}
}

func setCmd(item string, qty int64) impl.Cmd {
	return impl.Cmd{Kind: impl.CmSet, Item: item, Qty: qty}
}

func removeCmd(item string) impl.Cmd {
	return impl.Cmd{Kind: impl.CmRemove, Item: item}
}

func saveCmd(item string) impl.Cmd {
	return impl.Cmd{Kind: impl.CmSave, Item: item}
}

func backCmd(item string) impl.Cmd {
	return impl.Cmd{Kind: impl.CmBack, Item: item}
}

func toggleCmd(dev int64, seq int64) impl.Cmd {
	return impl.Cmd{Kind: impl.CmToggle, Dev: dev, Seq: seq}
}

// kindCmds are valid commands, one of each Kind.
func kindCmds() []impl.Cmd {
	return []impl.Cmd{addCmd("tea", 2), setCmd("tea", 3), removeCmd("tea"), saveCmd("tea"), backCmd("tea"), clearCmd, undoCmd, redoCmd, toggleCmd(0, 1)}
}

func cmdsWith(x impl.Cmd, set func(x *impl.Cmd, n int64), numbers ...int64) []impl.Cmd {
	var list []impl.Cmd
	for _, n := range numbers {
		y := x
		set(&y, n)
		list = append(list, y)
	}
	return list
}

// unnamedFields are commands with one field that their Kind does not name.
func unnamedFields() []impl.Cmd {
	setQty := func(x *impl.Cmd, n int64) { x.Qty = n }
	setDev := func(x *impl.Cmd, n int64) { x.Dev = n }
	setSeq := func(x *impl.Cmd, n int64) { x.Seq = n }
	numbers := []int64{-1, 1, 2, 999, math.MinInt64, math.MaxInt64, 1 << 32}
	var list []impl.Cmd
	for _, x := range kindCmds() {
		if x.Kind >= impl.CmRemove {
			list = append(list, cmdsWith(x, setQty, numbers...)...)
		}
		if x.Kind >= impl.CmClear {
			x.Item = "tea"
			list = append(list, x)
			x.Item = "\x00"
			list = append(list, x)
			x.Item = ""
		}
		if x.Kind != impl.CmToggle {
			list = append(list, cmdsWith(x, setDev, numbers...)...)
			list = append(list, cmdsWith(x, setSeq, numbers...)...)
		}
	}
	return list
}

// exceededLimits are commands with one field that is not as their Kind requires it.
func exceededLimits() []impl.Cmd {
	var list []impl.Cmd
	for _, kind := range []int64{-1, 0, 10, 11, math.MinInt64, math.MaxInt64} {
		list = append(list, impl.Cmd{Kind: kind}, impl.Cmd{Kind: kind, Item: "tea"}, impl.Cmd{Kind: kind, Item: "tea", Qty: 1}, impl.Cmd{Kind: kind, Seq: 1})
	}
	for _, x := range kindCmds() {
		x.Kind += 1 << 32
		list = append(list, x)
	}
	for _, item := range []string{"", "toolong12", "Tea", "te a", "t\xc3\xa9", "a\x00", "a-b", strings.Repeat("a", 5000)} {
		list = append(list, addCmd(item, 1), setCmd(item, 1), removeCmd(item), saveCmd(item), backCmd(item))
	}
	for _, qty := range []int64{-1, 0, 1000, math.MinInt64, math.MaxInt64, 1<<32 + 1} {
		list = append(list, addCmd("tea", qty), setCmd("tea", qty))
	}
	for _, dev := range []int64{-1, 4, math.MinInt64, math.MaxInt64, 1 << 32} {
		list = append(list, toggleCmd(dev, 1))
	}
	for _, seq := range []int64{-1, 0, 41, math.MinInt64, math.MaxInt64, 1<<32 + 1} {
		list = append(list, toggleCmd(0, seq))
	}
	return list
}

func notCmds() []impl.Cmd {
	return slices.Concat([]impl.Cmd{{}}, unnamedFields(), exceededLimits())
}

var notDevices = []int64{-1, 4, 5, math.MinInt64, math.MaxInt64, 1 << 32, -1 << 32}

// wantIssue checks one command and that nothing but a new cart comes of it.
func wantIssue(t *testing.T, c impl.Cart, dev int64, x impl.Cmd, want impl.Cart, code int64) {
	t.Helper()
	before := copyOf(c)
	got, gotCode := impl.Issue(c, dev, x)
	if gotCode != code || !sameCart(got, want) {
		t.Errorf("Issue(%v, %d, %v) = %v, %d; want %v, %d", c, dev, x, got, gotCode, want, code)
	}
	if !sameCart(c, before) {
		t.Errorf("Issue of %v on device %d has changed %v to %v", x, dev, before, c)
	}
}

func wantRejected(t *testing.T, c impl.Cart, dev int64, x impl.Cmd, code int64) {
	t.Helper()
	wantIssue(t, c, dev, x, copyOf(c), code)
}

func wantForm(t *testing.T, c impl.Cart, dev int64, x impl.Cmd) {
	t.Helper()
	wantIssue(t, c, dev, x, impl.Cart{}, impl.CcForm)
}

// issue performs a command that must not be rejected.
func issue(t *testing.T, c impl.Cart, dev int64, list ...impl.Cmd) impl.Cart {
	t.Helper()
	for _, x := range list {
		next, code := impl.Issue(c, dev, x)
		if code != impl.CcOk || !impl.CartOk(next) {
			t.Fatalf("Issue(%v, %d, %v) = %v, %d", c, dev, x, next, code)
		}
		c = next
	}
	return c
}

// withOp returns a cart with one more operation of a device, which is numbered and stamped.
func withOp(c impl.Cart, o impl.Op) impl.Cart {
	next := copyOf(c)
	next.Vec[o.Dev]++
	o.Seq, o.Stamp = next.Vec[o.Dev], 1
	for _, other := range c.Ops {
		o.Stamp = max(o.Stamp, other.Stamp+1)
	}
	next.Ops = append(next.Ops, o)
	slices.SortStableFunc(next.Ops, func(a, b impl.Op) int { return int(a.Dev - b.Dev) })
	return next
}

// toggled returns a cart in which the operation has one more of Undos.
func toggled(c impl.Cart, dev int64, seq int64) impl.Cart {
	next := copyOf(c)
	for i, o := range next.Ops {
		if o.Dev == dev && o.Seq == seq {
			next.Ops[i].Undos++
		}
	}
	return next
}

func TestCmdOk(t *testing.T) {
	good := append(kindCmds(),
		addCmd("a", 1), addCmd("abcdefgh", 999), setCmd("0", 1), setCmd("01234567", 999),
		removeCmd("z"), removeCmd("zzzzzzz9"), saveCmd("9"), saveCmd("abcdefgh"), backCmd("q"), backCmd("abcdefgh"),
		toggleCmd(0, 40), toggleCmd(3, 1), toggleCmd(3, 40), toggleCmd(1, 39))
	for _, x := range good {
		if !impl.CmdOk(x) {
			t.Errorf("CmdOk(%v) = false", x)
		}
	}
	for _, x := range notCmds() {
		if impl.CmdOk(x) {
			t.Errorf("CmdOk(%v) = true", x)
		}
	}
}

func wantTargets(t *testing.T, c impl.Cart, dev int64, undo int64, redo int64) {
	t.Helper()
	if seq, ok := impl.UndoTarget(c, dev); seq != undo || ok != (undo > 0) {
		t.Errorf("UndoTarget(%v, %d) = %d, %t; want %d, %t", c, dev, seq, ok, undo, undo > 0)
	}
	if seq, ok := impl.RedoTarget(c, dev); seq != redo || ok != (redo > 0) {
		t.Errorf("RedoTarget(%v, %d) = %d, %t; want %d, %t", c, dev, seq, ok, redo, redo > 0)
	}
}

func TestTargetExamples(t *testing.T) {
	for _, c := range []struct {
		undos      []int64
		undo, redo int64
	}{
		{nil, 0, 0},
		{[]int64{0}, 1, 0},
		{[]int64{1}, 0, 1},
		{[]int64{0, 0, 0}, 3, 0},
		{[]int64{1, 1, 1}, 0, 1},
		{[]int64{0, 1, 1}, 1, 2},
		{[]int64{0, 0, 1}, 2, 3},
		{[]int64{1, 0, 1}, 2, 3},
		{[]int64{1, 1, 0}, 3, 0},
		{[]int64{0, 1, 0}, 3, 0},
		{[]int64{2, 3, 49}, 1, 2},
		{[]int64{49, 50, 49}, 2, 3},
	} {
		for dev := range int64(impl.Devices) {
			var ops []impl.Op
			for i, undos := range c.undos {
				ops = append(ops, undone(savedOp(dev, int64(i)+1, "tea"), undos))
			}
			wantTargets(t, cartOf(t, ops...), dev, c.undo, c.redo)
			// The operations of other devices do not count.
			others := slices.Clone(ops)
			for other := range int64(impl.Devices) {
				if other != dev {
					others = append(others, savedOp(other, 1, "tea"), undone(savedOp(other, 2, "tea"), 1), savedOp(other, 9, "tea"), undone(savedOp(other, 10, "tea"), 1))
				}
			}
			wantTargets(t, cartOf(t, others...), dev, c.undo, c.redo)
		}
	}
}

// Which operations are live is told by the bits of a number, for each number of 6 bits.
func TestTargetsOfAllShortHistories(t *testing.T) {
	for length := range int64(7) {
		for bits := range int64(1) << length {
			var ops []impl.Op
			undo := int64(0)
			for i := range length {
				ops = append(ops, undone(savedOp(2, i+1, "tea"), bits>>i&1))
				if bits>>i&1 == 0 {
					undo = i + 1
				}
			}
			redo := undo + 1
			if undo == length {
				redo = 0
			}
			wantTargets(t, cartOf(t, append(ops, savedOp(0, 1, "tea"), undone(savedOp(3, 1, "tea"), 1))...), 2, undo, redo)
		}
	}
}

func TestTargetsOfFullDevices(t *testing.T) {
	full := plan{[4]int64{40, 40, 40, 40}, never}.cart()
	undoneCart := plan{[4]int64{40, 40, 40, 40}, func(dev, seq int64) int64 { return 1 }}.cart()
	for dev := range int64(impl.Devices) {
		wantTargets(t, full, dev, 40, 0)
		wantTargets(t, undoneCart, dev, 0, 1)
		wantTargets(t, toggled(full, dev, 40), dev, 39, 40)
	}
}

func TestTargetsRejectInvalid(t *testing.T) {
	for _, c := range notCarts() {
		for dev := range int64(impl.Devices) {
			wantTargets(t, c, dev, 0, 0)
		}
	}
	for _, dev := range notDevices {
		wantTargets(t, impl.CartNew(), dev, 0, 0)
		wantTargets(t, plan{[4]int64{3, 3, 3, 3}, never}.cart(), dev, 0, 0)
		wantTargets(t, plan{[4]int64{3, 3, 3, 3}, unevenly}.cart(), dev, 0, 0)
		wantTargets(t, impl.Cart{}, dev, 0, 0)
	}
}

func TestIssueInsertsOps(t *testing.T) {
	// The greatest stamp is that of another device's operation that is not live.
	base := cartOf(t, addedOp(0, 3, "egg", 2, 1), addedOp(1, 5, "tea", 3, 1), undone(setOp(3, 70, "tea", 9), 1), undone(removedOp(3, 71, "egg", 8), 1), removedOp(3, 9, "oat", 4))
	saved := withOp(base, savedOp(2, 0, "tea"))
	for dev := range int64(impl.Devices) {
		for _, c := range []struct {
			cart impl.Cart
			x    impl.Cmd
			op   impl.Op
		}{
			{base, addCmd("milk", 7), addedOp(dev, 0, "milk", 7, 1)},
			{base, addCmd("oat", 999), addedOp(dev, 0, "oat", 999, 5)},
			{base, setCmd("tea", 8), setOp(dev, 0, "tea", 8)},
			{base, setCmd("tea", 3), setOp(dev, 0, "tea", 3)},
			{base, removeCmd("egg"), removedOp(dev, 0, "egg", 2)},
			{base, saveCmd("tea"), savedOp(dev, 0, "tea")},
			{saved, backCmd("tea"), backOp(dev, 0, "tea")},
			{saved, setCmd("tea", 1), setOp(dev, 0, "tea", 1)},
			{saved, removeCmd("tea"), removedOp(dev, 0, "tea", 2)},
			{impl.CartNew(), addCmd("tea", 1), addedOp(dev, 0, "tea", 1, 1)},
		} {
			wantIssue(t, c.cart, dev, c.x, withOp(c.cart, c.op), impl.CcOk)
		}
	}
	if o := issue(t, base, 1, addCmd("milk", 7)).Ops[2]; o != (impl.Op{Dev: 1, Seq: 2, Stamp: 72, Kind: impl.OkAdd, Item: "milk", Qty: 7, Level: 1}) {
		t.Errorf("the inserted operation is %+v", o)
	}
}

func TestIssueThere(t *testing.T) {
	c := cartOf(t, addedOp(0, 1, "tea", 3, 1), addedOp(1, 2, "egg", 3, 1), savedOp(1, 3, "egg"))
	full := plan{[4]int64{40, 40, 40, 40}, never}.cart()
	for dev := range int64(impl.Devices) {
		wantRejected(t, c, dev, addCmd("tea", 3), impl.CcThere)
		wantRejected(t, c, dev, addCmd("tea", 5), impl.CcThere)
		wantRejected(t, c, dev, addCmd("egg", 5), impl.CcThere)
		// That the item is present is checked before the limits are.
		wantRejected(t, full, dev, addCmd(impl.ItemsOf(full)[0], 5), impl.CcThere)
	}
}

func TestIssueNone(t *testing.T) {
	c := cartOf(t, addedOp(0, 1, "tea", 3, 1), addedOp(1, 2, "egg", 3, 1), savedOp(1, 3, "egg"), addedOp(0, 4, "oat", 1, 1), removedOp(1, 5, "oat", 2), savedOp(3, 9, "oat"), undone(addedOp(0, 7, "milk", 1, 1), 1))
	for dev := range int64(impl.Devices) {
		for _, item := range []string{"oat", "milk", "te", "teas", "a"} {
			for _, x := range []impl.Cmd{setCmd(item, 3), removeCmd(item), saveCmd(item), backCmd(item)} {
				wantRejected(t, c, dev, x, impl.CcNone)
				wantRejected(t, impl.CartNew(), dev, x, impl.CcNone)
			}
		}
		wantRejected(t, c, dev, backCmd("tea"), impl.CcNone)
		wantRejected(t, c, dev, saveCmd("egg"), impl.CcNone)
		for _, x := range []impl.Cmd{clearCmd, undoCmd, redoCmd, toggleCmd(0, 1), toggleCmd(3, 40)} {
			wantRejected(t, impl.CartNew(), dev, x, impl.CcNone)
		}
	}
	full := plan{[4]int64{40, 40, 40, 40}, never}.cart()
	wantRejected(t, full, 0, setCmd("nothere", 1), impl.CcNone)
	wantRejected(t, full, 0, removeCmd("nothere"), impl.CcNone)
	wantRejected(t, full, 0, saveCmd("nothere"), impl.CcNone)
	wantRejected(t, full, 0, backCmd("nothere"), impl.CcNone)
}

func TestIssueForm(t *testing.T) {
	for _, c := range []impl.Cart{impl.CartNew(), plan{[4]int64{2, 0, 3, 1}, never}.cart(), fullestCart()} {
		for _, x := range notCmds() {
			wantForm(t, c, 0, x)
			wantForm(t, c, 3, x)
		}
		for _, dev := range notDevices {
			for _, x := range append(kindCmds(), impl.Cmd{}) {
				wantForm(t, c, dev, x)
			}
		}
	}
	for _, c := range notCarts() {
		for _, x := range append(kindCmds(), impl.Cmd{}) {
			wantForm(t, c, 0, x)
			wantForm(t, c, 4, x)
		}
	}
}

// What is inserted is not valid if the device has MaxSeq operations, whatever the other devices have.
func TestIssueFullSeq(t *testing.T) {
	for dev := range int64(impl.Devices) {
		c := issue(t, impl.CartNew(), dev, addCmd("tea", 1), addCmd("egg", 1), saveCmd("egg"))
		for seq := int64(4); seq <= impl.MaxSeq; seq++ {
			c = issue(t, c, dev, setCmd("tea", seq))
		}
		if c.Vec[dev] != 40 {
			t.Fatalf("device %d has %d operations", dev, c.Vec[dev])
		}
		for _, x := range []impl.Cmd{addCmd("oat", 1), setCmd("tea", 5), removeCmd("tea"), saveCmd("tea"), backCmd("egg"), clearCmd} {
			wantRejected(t, c, dev, x, impl.CcFull)
			issue(t, c, (dev+1)%4, x)
		}
		// An operation that is undone keeps its number.
		c = issue(t, c, dev, undoCmd)
		wantRejected(t, c, dev, setCmd("tea", 5), impl.CcFull)
		wantIssue(t, c, dev, redoCmd, toggled(c, dev, 40), impl.CcOk)
	}
}

func TestIssueFullStamp(t *testing.T) {
	for stampDev := range int64(impl.Devices) {
		for _, undos := range []int64{0, 1} {
			for dev := range int64(impl.Devices) {
				base := []impl.Op{addedOp(0, 1, "tea", 1, 1), addedOp(1, 2, "egg", 1, 1), savedOp(1, 3, "egg")}
				last := cartOf(t, append(base, undone(setOp(stampDev, 100000, "tea", 4), undos))...)
				for _, x := range []impl.Cmd{addCmd("oat", 1), setCmd("tea", 5), removeCmd("tea"), saveCmd("tea"), backCmd("egg"), clearCmd} {
					wantRejected(t, last, dev, x, impl.CcFull)
				}
				wantIssue(t, last, dev, toggleCmd(0, 1), toggled(last, 0, 1), impl.CcOk)
				nearly := cartOf(t, append(base, undone(setOp(stampDev, 99999, "tea", 4), undos))...)
				wantIssue(t, nearly, dev, saveCmd("tea"), withOp(nearly, savedOp(dev, 0, "tea")), impl.CcOk)
				wantRejected(t, issue(t, nearly, dev, saveCmd("tea")), dev, backCmd("tea"), impl.CcFull)
			}
		}
	}
}

func TestIssueFullLevel(t *testing.T) {
	for dev := range int64(impl.Devices) {
		c := cartOf(t, removedOp(1, 5, "tea", 98))
		c = issue(t, c, dev, addCmd("tea", 3), removeCmd("tea"))
		if level := impl.LevelOf(c, "tea"); level != 100 {
			t.Errorf("the level is %d", level)
		}
		wantRejected(t, c, dev, addCmd("tea", 3), impl.CcFull)
		wantIssue(t, c, dev, addCmd("egg", 3), withOp(c, addedOp(dev, 0, "egg", 3, 1)), impl.CcOk)
		// Without the removal, the item is present.
		wantRejected(t, issue(t, c, dev, undoCmd), dev, addCmd("tea", 3), impl.CcThere)
	}
}

func TestIssueFullUndos(t *testing.T) {
	for _, dev := range []int64{0, 3} {
		c := cartOf(t, addedOp(dev, 1, "tea", 1, 1), undone(setOp(dev, 2, "tea", 5), 50), undone(setOp(dev, 3, "tea", 6), 49), undone(setOp(dev, 4, "tea", 7), 48), undone(setOp(dev, 5, "tea", 8), 1))
		wantRejected(t, c, 1, toggleCmd(dev, 2), impl.CcFull)
		wantIssue(t, c, 1, toggleCmd(dev, 3), toggled(c, dev, 3), impl.CcOk)
		wantRejected(t, toggled(c, dev, 3), 1, toggleCmd(dev, 3), impl.CcFull)
		wantIssue(t, c, dev, undoCmd, toggled(c, dev, 4), impl.CcOk)
		// The operation of UndoTarget is not replaced by an earlier one.
		wantRejected(t, toggled(c, dev, 4), dev, undoCmd, impl.CcFull)
		wantIssue(t, toggled(c, dev, 4), dev, redoCmd, toggled(toggled(c, dev, 4), dev, 3), impl.CcOk)
	}
}

// Undoing and redoing is possible MaxUndo times in all.
func TestUndoAndRedoAlternate(t *testing.T) {
	c := issue(t, impl.CartNew(), 2, addCmd("tea", 4))
	for range impl.MaxUndo / 2 {
		c = issue(t, c, 2, undoCmd)
		wantLines(t, c, nil, 0)
		wantRejected(t, c, 2, undoCmd, impl.CcNone)
		c = issue(t, c, 2, redoCmd)
		wantLines(t, c, []impl.Line{{Item: "tea", Qty: 4}}, 4)
		wantRejected(t, c, 2, redoCmd, impl.CcNone)
	}
	wantRejected(t, c, 2, undoCmd, impl.CcFull)
}

func TestUndoAndRedoInOrder(t *testing.T) {
	c := issue(t, impl.CartNew(), 1, addCmd("tea", 4))
	c = issue(t, c, 3, setCmd("tea", 5))
	c = issue(t, c, 1, saveCmd("tea"), setCmd("tea", 6), addCmd("egg", 2))
	all := copyOf(c)
	for _, seq := range []int64{4, 3, 2, 1} {
		wantIssue(t, c, 1, undoCmd, toggled(c, 1, seq), impl.CcOk)
		c = issue(t, c, 1, undoCmd)
	}
	wantRejected(t, c, 1, undoCmd, impl.CcNone)
	for _, seq := range []int64{1, 2, 3, 4} {
		wantIssue(t, c, 1, redoCmd, toggled(c, 1, seq), impl.CcOk)
		c = issue(t, c, 1, redoCmd)
	}
	wantRejected(t, c, 1, redoCmd, impl.CcNone)
	if !slices.Equal(impl.LinesOf(c), impl.LinesOf(all)) {
		t.Errorf("the lines are %v; they were %v", impl.LinesOf(c), impl.LinesOf(all))
	}
	// A new operation makes what was undone before it unreachable by redo.
	c = issue(t, c, 1, undoCmd, undoCmd, setCmd("tea", 9))
	wantRejected(t, c, 1, redoCmd, impl.CcNone)
	wantIssue(t, c, 1, toggleCmd(1, 4), toggled(c, 1, 4), impl.CcOk)
}

func TestToggle(t *testing.T) {
	c := plan{[4]int64{3, 0, 1, 40}, unevenly}.cart()
	for owner := range int64(impl.Devices) {
		for seq := int64(1); seq <= impl.MaxSeq; seq++ {
			for dev := range int64(impl.Devices) {
				switch {
				case seq > c.Vec[owner]:
					wantRejected(t, c, dev, toggleCmd(owner, seq), impl.CcNone)
				case unevenly(owner, seq) == impl.MaxUndo:
					wantRejected(t, c, dev, toggleCmd(owner, seq), impl.CcFull)
				default:
					wantIssue(t, c, dev, toggleCmd(owner, seq), toggled(c, owner, seq), impl.CcOk)
				}
			}
		}
	}
}

func TestClear(t *testing.T) {
	c := cartOf(t, addedOp(3, 1, "tea", 1, 1), addedOp(0, 2, "egg", 1, 3), addedOp(1, 2, "oat", 1, 5), savedOp(2, 3, "egg"), addedOp(0, 4, "milk", 2, 1), addedOp(2, 4, "gone", 2, 1), removedOp(2, 5, "gone", 2))
	for dev := range int64(impl.Devices) {
		want := withOp(withOp(withOp(c, removedOp(dev, 0, "milk", 2)), removedOp(dev, 0, "oat", 6)), removedOp(dev, 0, "tea", 2))
		wantIssue(t, c, dev, clearCmd, want, impl.CcOk)
		wantLines(t, want, []impl.Line{{Item: "egg", Qty: 1, Saved: true}}, 0)
		wantRejected(t, want, dev, clearCmd, impl.CcNone)
		// Undoing takes back the last removal alone.
		wantIssue(t, want, dev, undoCmd, toggled(want, dev, want.Vec[dev]), impl.CcOk)
	}
}

// roomFor returns a cart with lines for the items, in which device 2 can insert so many operations, and no more.
func roomFor(t *testing.T, room int64, items ...string) impl.Cart {
	t.Helper()
	c := impl.CartNew()
	for _, item := range items {
		c = issue(t, c, 0, addCmd(item, 1))
	}
	c = issue(t, c, 1, addCmd("zz", 1), saveCmd("zz"))
	for c.Vec[2] < impl.MaxSeq-room {
		c = issue(t, c, 2, setCmd("zz", 1+c.Vec[2]))
	}
	return c
}

func TestClearWithoutRoom(t *testing.T) {
	items := []string{"a", "b", "c", "d"}
	for room := range int64(6) {
		c := roomFor(t, room, items...)
		if room < 4 {
			wantRejected(t, c, 2, clearCmd, impl.CcFull)
			continue
		}
		want := c
		for _, item := range items {
			want = withOp(want, removedOp(2, 0, item, 2))
		}
		wantIssue(t, c, 2, clearCmd, want, impl.CcOk)
	}
	wantRejected(t, roomFor(t, 0), 2, clearCmd, impl.CcNone)
	// The stamps run out at the second removal.
	c := cartOf(t, addedOp(0, 1, "a", 1, 1), addedOp(0, 2, "b", 1, 1), undone(setOp(1, 99999, "a", 4), 1))
	wantRejected(t, c, 3, clearCmd, impl.CcFull)
	c = cartOf(t, addedOp(0, 1, "a", 1, 1), addedOp(0, 2, "b", 1, 1), undone(setOp(1, 99998, "a", 4), 1))
	wantIssue(t, c, 3, clearCmd, withOp(withOp(c, removedOp(3, 0, "a", 2)), removedOp(3, 0, "b", 2)), impl.CcOk)
	c = manyItems(t)
	wantRejected(t, c, 3, clearCmd, impl.CcFull)
}

// expected says what a valid command does by the replayed views.
func expected(c impl.Cart, dev int64, x impl.Cmd) (impl.Cart, int64) {
	v := replayed(c)[x.Item]
	present := v.level&1 == 1
	switch x.Kind {
	case impl.CmUndo, impl.CmRedo, impl.CmToggle:
		return expectedToggle(c, dev, x)
	case impl.CmClear:
		return expectedClear(c, dev)
	case impl.CmAdd:
		if present {
			return c, impl.CcThere
		}
		return expectedOp(c, addedOp(dev, 0, x.Item, x.Qty, v.level+1))
	case impl.CmSet:
		if present {
			return expectedOp(c, setOp(dev, 0, x.Item, x.Qty))
		}
	case impl.CmRemove:
		if present {
			return expectedOp(c, removedOp(dev, 0, x.Item, v.level+1))
		}
	case impl.CmSave:
		if present && !v.saved {
			return expectedOp(c, savedOp(dev, 0, x.Item))
		}
	case impl.CmBack:
		if present && v.saved {
			return expectedOp(c, backOp(dev, 0, x.Item))
		}
	}
	return c, impl.CcNone
}

func expectedOp(c impl.Cart, o impl.Op) (impl.Cart, int64) {
	next := withOp(c, o)
	if !impl.CartOk(next) {
		return c, impl.CcFull
	}
	return next, impl.CcOk
}

func expectedClear(c impl.Cart, dev int64) (impl.Cart, int64) {
	next, code := c, int64(impl.CcNone)
	views := replayed(c)
	lines, _ := linesBy(views)
	for _, line := range lines {
		if line.Saved {
			continue
		}
		next, code = expectedOp(next, removedOp(dev, 0, line.Item, views[line.Item].level+1))
		if code != impl.CcOk {
			return c, code
		}
	}
	return next, code
}

func expectedToggle(c impl.Cart, dev int64, x impl.Cmd) (impl.Cart, int64) {
	seq := x.Seq
	if x.Kind != impl.CmToggle {
		x.Dev, seq = dev, 0
		for _, o := range c.Ops {
			if o.Dev == dev && o.Undos&1 == 0 {
				seq = o.Seq
			}
		}
	}
	if x.Kind == impl.CmRedo {
		seq++
	}
	for _, o := range c.Ops {
		if o.Dev == x.Dev && o.Seq == seq && o.Undos < impl.MaxUndo {
			return toggled(c, x.Dev, seq), impl.CcOk
		} else if o.Dev == x.Dev && o.Seq == seq {
			return c, impl.CcFull
		}
	}
	return c, impl.CcNone
}

func (d *dice) cmd() impl.Cmd {
	x := kindCmds()[d.roll(9)]
	switch {
	case x.Kind <= impl.CmSet:
		x.Item, x.Qty = diceItems[d.roll(int64(len(diceItems)))], 1+d.roll(999)
	case x.Kind <= impl.CmBack:
		x.Item = diceItems[d.roll(int64(len(diceItems)))]
	case x.Kind == impl.CmToggle:
		x.Dev, x.Seq = d.roll(4), 1+d.roll(7)
	}
	return x
}

func otherLines(c impl.Cart, items ...string) []impl.Line {
	return slices.DeleteFunc(impl.LinesOf(c), func(line impl.Line) bool { return slices.Contains(items, line.Item) })
}

// wantEffect checks what a command on an item promises, by the lines alone.
func wantEffect(t *testing.T, c impl.Cart, next impl.Cart, x impl.Cmd) {
	t.Helper()
	if !slices.Equal(otherLines(c, x.Item), otherLines(next, x.Item)) {
		t.Errorf("%v changes other lines of %v", x, c)
	}
	want := []impl.Line{{Item: x.Item, Qty: impl.QtyOf(c, x.Item), Saved: impl.SavedOf(c, x.Item)}}
	switch x.Kind {
	case impl.CmAdd:
		want[0].Qty = x.Qty
	case impl.CmSet:
		want[0].Qty = x.Qty
	case impl.CmRemove:
		want = nil
	case impl.CmSave:
		want[0].Saved = true
	case impl.CmBack:
		want[0].Saved = false
	}
	got := slices.DeleteFunc(impl.LinesOf(next), func(line impl.Line) bool { return line.Item != x.Item })
	if !slices.Equal(got, want) {
		t.Errorf("after %v, the lines of the item are %v; want %v", x, got, want)
	}
}

func TestCommandsHaveTheirEffect(t *testing.T) {
	d := dice{state: 6}
	codes := map[int64]int{}
	for range 6000 {
		c, dev, x := d.cart(t), d.roll(4), d.cmd()
		want, code := expected(c, dev, x)
		wantIssue(t, c, dev, x, want, code)
		next, code := impl.Issue(c, dev, x)
		codes[code]++
		if !impl.CartOk(next) || !impl.Within(c, next) {
			t.Errorf("Issue(%v, %d, %v) = %v", c, dev, x, next)
		}
		if code == impl.CcOk && x.Item != "" {
			wantEffect(t, c, next, x)
			after := issue(t, next, dev, undoCmd)
			if !slices.Equal(impl.LinesOf(c), impl.LinesOf(after)) {
				t.Errorf("%v and undo change the lines from %v to %v", x, impl.LinesOf(c), impl.LinesOf(after))
			}
		}
		if t.Failed() {
			return
		}
	}
	if codes[impl.CcOk] < 1000 || codes[impl.CcNone] < 100 || codes[impl.CcThere] < 100 {
		t.Errorf("the codes are %v", codes)
	}
}

// Devices that act one after another, until nothing can be inserted.
func TestCommandsUntilFull(t *testing.T) {
	codes := map[int64]int{}
	for seed := range uint64(8) {
		d := dice{state: seed}
		c := impl.CartNew()
		for range 1500 {
			dev, x := d.roll(4), d.cmd()
			want, code := expected(c, dev, x)
			wantIssue(t, c, dev, x, want, code)
			if t.Failed() {
				return
			}
			codes[code]++
			c = want
		}
	}
	if codes[impl.CcFull] < 100 || codes[impl.CcOk] < 1000 || codes[impl.CcNone] < 1000 || codes[impl.CcThere] < 50 {
		t.Errorf("the codes are %v", codes)
	}
}

func TestIndependentCommandsAreMerged(t *testing.T) {
	d := dice{state: 7}
	merges := 0
	for range 6000 {
		base, first, second := d.cart(t), d.roll(4), d.roll(4)
		x, y := d.cmd(), d.cmd()
		a, codeA := impl.Issue(base, first, x)
		b, codeB := impl.Issue(base, second, y)
		if first == second || x.Item == y.Item || x.Item == "" || y.Item == "" || codeA != impl.CcOk || codeB != impl.CcOk {
			continue
		}
		merges++
		m := mustMerge(t, a, b)
		wantEffect(t, b, m, x)
		wantEffect(t, a, m, y)
		if !slices.Equal(otherLines(m, x.Item, y.Item), otherLines(base, x.Item, y.Item)) {
			t.Errorf("%v and %v change other lines of %v", x, y, base)
		}
		if t.Failed() {
			return
		}
	}
	if merges < 100 {
		t.Errorf("only %d merges", merges)
	}
}

// Commands on one item, given independently, have equal stamps; that of the greater device is the last one.
func TestIndependentCommandsOnOneItem(t *testing.T) {
	base := issue(t, impl.CartNew(), 0, addCmd("tea", 3))
	for first := range int64(impl.Devices) {
		for second := range first {
			greater, lesser := issue(t, base, first, setCmd("tea", 4)), issue(t, base, second, setCmd("tea", 5))
			wantLines(t, mustMerge(t, greater, lesser), []impl.Line{{Item: "tea", Qty: 4}}, 4)
			saved := issue(t, base, second, saveCmd("tea"))
			wantLines(t, mustMerge(t, greater, saved), []impl.Line{{Item: "tea", Qty: 4, Saved: true}}, 0)
			both := mustMerge(t, issue(t, base, first, toggleCmd(0, 1)), issue(t, base, second, toggleCmd(0, 1)))
			wantLines(t, both, nil, 0)
			removed := mustMerge(t, issue(t, base, first, removeCmd("tea")), issue(t, base, second, removeCmd("tea")))
			wantLines(t, removed, nil, 0)
			// The item is removed as long as one of both removals is live.
			wantLines(t, issue(t, removed, first, undoCmd), nil, 0)
			wantLines(t, issue(t, issue(t, removed, first, undoCmd), second, undoCmd), []impl.Line{{Item: "tea", Qty: 3}}, 3)
		}
	}
}

func wantIssueAll(t *testing.T, c impl.Cart, dev int64, list []impl.Cmd, want impl.Cart, codes []int64) {
	t.Helper()
	got, gotCodes := impl.IssueAll(c, dev, list)
	if !sameCart(got, want) || !slices.Equal(gotCodes, codes) {
		t.Errorf("IssueAll(%v, %d, %v) = %v, %v; want %v, %v", c, dev, list, got, gotCodes, want, codes)
	}
}

func TestIssueAllExample(t *testing.T) {
	want := issue(t, impl.CartNew(), 1, addCmd("a", 1), addCmd("b", 2))
	wantIssueAll(t, impl.CartNew(), 1, []impl.Cmd{addCmd("a", 1), {}, addCmd("a", 1), addCmd("b", 2)}, want, []int64{impl.CcOk, impl.CcForm, impl.CcThere, impl.CcOk})
}

func TestIssueAllAsIssue(t *testing.T) {
	d := dice{state: 8}
	for range 300 {
		c, dev := d.cart(t), d.roll(4)
		var list []impl.Cmd
		var codes []int64
		want := c
		for range d.roll(60) {
			x := d.cmd()
			if d.roll(8) == 0 {
				x = notCmds()[d.roll(100)]
			}
			next, code := impl.Issue(want, dev, x)
			if code != impl.CcForm {
				want = next
			}
			list, codes = append(list, x), append(codes, code)
		}
		wantIssueAll(t, c, dev, list, want, codes)
	}
}

func TestIssueAllWithInvalidCommands(t *testing.T) {
	c := issue(t, impl.CartNew(), 0, addCmd("tea", 1))
	for _, bad := range notCmds() {
		want := issue(t, c, 2, setCmd("tea", 2), saveCmd("tea"))
		wantIssueAll(t, c, 2, []impl.Cmd{bad, setCmd("tea", 2), bad, saveCmd("tea"), bad}, want, []int64{impl.CcForm, impl.CcOk, impl.CcForm, impl.CcOk, impl.CcForm})
		wantIssueAll(t, c, 2, []impl.Cmd{bad}, c, []int64{impl.CcForm})
	}
}

func TestIssueAllOfManyCommands(t *testing.T) {
	var list []impl.Cmd
	var codes []int64
	for i := range 200 {
		if i < 40 {
			list, codes = append(list, addCmd("i"+string(rune('a'+i%20))+string(rune('a'+i/20)), 1)), append(codes, impl.CcOk)
		} else {
			list, codes = append(list, addCmd("more", 1)), append(codes, impl.CcFull)
		}
	}
	want := issue(t, impl.CartNew(), 3, list[:40]...)
	wantIssueAll(t, impl.CartNew(), 3, list, want, codes)
	wantIssueAll(t, impl.CartNew(), 3, list[:199], want, codes[:199])
	for _, more := range [][]impl.Cmd{{addCmd("more", 1)}, {{}}, {undoCmd}, make([]impl.Cmd, 1000)} {
		wantIssueAll(t, impl.CartNew(), 3, append(slices.Clone(list), more...), impl.Cart{}, nil)
	}
	wantIssueAll(t, want, 3, make([]impl.Cmd, 201), impl.Cart{}, nil)
	wantIssueAll(t, want, 3, make([]impl.Cmd, 200), want, slices.Repeat([]int64{impl.CcForm}, 200))
}

func TestIssueAllRejectsInvalid(t *testing.T) {
	good := plan{[4]int64{2, 0, 3, 1}, never}.cart()
	for _, list := range [][]impl.Cmd{nil, {}, {addCmd("new", 1)}, {{}}, {{}, undoCmd}} {
		for _, c := range notCarts() {
			wantIssueAll(t, c, 0, list, impl.Cart{}, nil)
			wantIssueAll(t, c, 4, list, impl.Cart{}, nil)
		}
		for _, dev := range notDevices {
			wantIssueAll(t, good, dev, list, impl.Cart{}, nil)
		}
	}
	wantIssueAll(t, good, 0, nil, good, nil)
	wantIssueAll(t, impl.CartNew(), 3, nil, impl.CartNew(), nil)
}

// argumentCmds have the codes CcOk, CcNone, CcThere and CcFull for some of the carts of the test below.
func argumentCmds() []impl.Cmd {
	return append(kindCmds(), addCmd("egg7", 1), addCmd("new", 1), setCmd("egg7", 4), removeCmd("egg7"), saveCmd("egg7"), backCmd("egg7"), toggleCmd(2, 3), toggleCmd(1, 40), impl.Cmd{})
}

func TestCommandArgumentsAreKept(t *testing.T) {
	for _, vec := range [][4]int64{{0, 0, 0, 0}, {2, 0, 3, 1}, {40, 40, 40, 40}} {
		for _, undos := range []func(dev int64, seq int64) int64{never, unevenly, otherwise} {
			c, behind := spareCart(plan{vec, undos})
			wantBehind := copyOf(behind)
			for dev := range int64(impl.Devices) {
				for _, x := range argumentCmds() {
					first, code := impl.Issue(c, dev, x)
					want := copyOf(first)
					spoil(first)
					if again, codeAgain := impl.Issue(c, dev, x); !sameCart(again, want) || codeAgain != code {
						t.Errorf("equal arguments: %v, %d, then %v, %d", want, code, again, codeAgain)
					}
					if !sameCart(behind, wantBehind) {
						t.Fatalf("Issue of %v: the argument is now %v; it was %v", x, behind, wantBehind)
					}
				}
				impl.UndoTarget(c, dev)
				impl.RedoTarget(c, dev)
				keepIssueAll(t, c, dev)
				if !sameCart(behind, wantBehind) {
					t.Fatalf("the argument is now %v; it was %v", behind, wantBehind)
				}
			}
		}
	}
}

func keepIssueAll(t *testing.T, c impl.Cart, dev int64) {
	t.Helper()
	behind := append(argumentCmds(), undoCmd, redoCmd)
	wantBehind := slices.Clone(behind)
	for _, n := range []int{0, 1, len(behind) - 2} {
		first, codes := impl.IssueAll(c, dev, behind[:n])
		want, wantCodes := copyOf(first), slices.Clone(codes)
		for i := range codes[:cap(codes)] {
			codes[:cap(codes)][i] = -7
		}
		if !sameCart(first, want) {
			t.Errorf("the codes share memory with the cart %v", first)
		}
		spoil(first)
		wantIssueAll(t, c, dev, behind[:n], want, wantCodes)
		if !slices.Equal(behind, wantBehind) {
			t.Errorf("the commands are now %v; they were %v", behind, wantBehind)
		}
	}
}
