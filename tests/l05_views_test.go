package tests

import (
	"cmp"
	"maps"
	"slices"
	"strings"
	"testing"

	"loop.example/g00660/impl"
)

func addedOp(dev int64, stamp int64, item string, qty int64, level int64) impl.Op {
	return impl.Op{Dev: dev, Stamp: stamp, Kind: impl.OkAdd, Item: item, Qty: qty, Level: level}
}

func setOp(dev int64, stamp int64, item string, qty int64) impl.Op {
	return impl.Op{Dev: dev, Stamp: stamp, Kind: impl.OkSet, Item: item, Qty: qty}
}

func removedOp(dev int64, stamp int64, item string, level int64) impl.Op {
	return impl.Op{Dev: dev, Stamp: stamp, Kind: impl.OkRemove, Item: item, Level: level}
}

func savedOp(dev int64, stamp int64, item string) impl.Op {
	return impl.Op{Dev: dev, Stamp: stamp, Kind: impl.OkSave, Item: item}
}

func backOp(dev int64, stamp int64, item string) impl.Op {
	return impl.Op{Dev: dev, Stamp: stamp, Kind: impl.OkBack, Item: item}
}

func undone(o impl.Op, times int64) impl.Op {
	o.Undos = times
	return o
}

// cartOf numbers the operations of each device in the order of their stamps.
func cartOf(t *testing.T, ops ...impl.Op) impl.Cart {
	t.Helper()
	c := impl.Cart{Vec: []int64{0, 0, 0, 0}, Ops: slices.Clone(ops)}
	slices.SortFunc(c.Ops, func(a, b impl.Op) int {
		return cmp.Or(cmp.Compare(a.Dev, b.Dev), cmp.Compare(a.Stamp, b.Stamp))
	})
	for i, o := range c.Ops {
		c.Vec[o.Dev]++
		c.Ops[i].Seq = c.Vec[o.Dev]
	}
	if !impl.CartOk(c) {
		t.Fatalf("the test's cart %v is not valid", c)
	}
	return c
}

// dice is a source of numbers that are the same in each run.
type dice struct{ state uint64 }

func (d *dice) roll(n int64) int64 {
	d.state = d.state*6364136223846793005 + 1442695040888963407
	return int64(d.state>>33) % n
}

var diceItems = []string{"a", "aa", "b", "0"}

func (d *dice) op(dev int64, stamp int64) impl.Op {
	o := impl.Op{Dev: dev, Stamp: stamp, Kind: 1 + d.roll(5), Item: diceItems[d.roll(int64(len(diceItems)))]}
	switch o.Kind {
	case impl.OkAdd:
		o.Qty, o.Level = 1+d.roll(999), 1+2*d.roll(3)
	case impl.OkSet:
		o.Qty = 1 + d.roll(999)
	case impl.OkRemove:
		o.Level = 2 + 2*d.roll(2)
	}
	if d.roll(3) == 0 {
		o.Undos = d.roll(6)
	}
	return o
}

// cart returns a cart with equal stamps of different devices, whose operations need not come from commands.
func (d *dice) cart(t *testing.T) impl.Cart {
	t.Helper()
	var ops []impl.Op
	for dev := range int64(impl.Devices) {
		stamp := int64(0)
		for range d.roll(7) {
			stamp += 1 + d.roll(2)
			ops = append(ops, d.op(dev, stamp))
		}
	}
	return cartOf(t, ops...)
}

// itemView is a line together with the level.
type itemView struct {
	level int64
	qty   int64
	saved bool
}

// replayed says what the views are by performing the live operations one after another, the earliest first.
func replayed(c impl.Cart) map[string]itemView {
	ops := slices.DeleteFunc(slices.Clone(c.Ops), func(o impl.Op) bool { return o.Undos&1 == 1 })
	slices.SortFunc(ops, func(a, b impl.Op) int {
		return cmp.Or(cmp.Compare(a.Stamp, b.Stamp), cmp.Compare(a.Dev, b.Dev), cmp.Compare(a.Seq, b.Seq))
	})
	views := map[string]itemView{}
	for _, o := range ops {
		v := views[o.Item]
		v.level = max(v.level, o.Level)
		switch o.Kind {
		case impl.OkAdd:
			v.qty, v.saved = o.Qty, false
		case impl.OkSet:
			v.qty = o.Qty
		case impl.OkSave:
			v.saved = true
		case impl.OkBack:
			v.saved = false
		}
		views[o.Item] = v
	}
	for item, v := range views {
		if v.level&1 == 0 {
			views[item] = itemView{level: v.level}
		}
	}
	return views
}

// linesBy returns the lines of the views, and the sum of those that are not saved.
func linesBy(views map[string]itemView) ([]impl.Line, int64) {
	var lines []impl.Line
	total := int64(0)
	for _, item := range slices.Sorted(maps.Keys(views)) {
		v := views[item]
		if v.level&1 == 0 {
			continue
		}
		lines = append(lines, impl.Line{Item: item, Qty: v.qty, Saved: v.saved})
		if !v.saved {
			total += v.qty
		}
	}
	return lines, total
}

func wantView(t *testing.T, c impl.Cart, item string, want itemView) {
	t.Helper()
	got := itemView{impl.LevelOf(c, item), impl.QtyOf(c, item), impl.SavedOf(c, item)}
	if got != want {
		t.Errorf("%q in %v: level, quantity and saved are %v; want %v", item, c, got, want)
	}
}

func wantLines(t *testing.T, c impl.Cart, want []impl.Line, total int64) {
	t.Helper()
	if got := impl.LinesOf(c); !slices.Equal(got, want) {
		t.Errorf("LinesOf(%v) = %v; want %v", c, got, want)
	}
	var items []string
	for _, line := range want {
		items = append(items, line.Item)
	}
	if got := impl.ItemsOf(c); !slices.Equal(got, items) {
		t.Errorf("ItemsOf(%v) = %q; want %q", c, got, items)
	}
	if got := impl.Total(c); got != total {
		t.Errorf("Total(%v) = %d; want %d", c, got, total)
	}
}

type viewCase struct {
	name string
	ops  []impl.Op
	want itemView
}

func wantViews(t *testing.T, cases []viewCase) {
	t.Helper()
	for _, v := range cases {
		t.Run(v.name, func(t *testing.T) {
			c := cartOf(t, v.ops...)
			wantView(t, c, "tea", v.want)
			lines, total := linesBy(map[string]itemView{"tea": v.want})
			wantLines(t, c, lines, total)
		})
	}
}

func TestLevels(t *testing.T) {
	add := addedOp(0, 1, "tea", 2, 1)
	wantViews(t, []viewCase{
		{"no operations", nil, itemView{}},
		{"added", []impl.Op{add}, itemView{1, 2, false}},
		{"removed", []impl.Op{add, removedOp(0, 2, "tea", 2)}, itemView{2, 0, false}},
		{"removed by another device", []impl.Op{add, removedOp(3, 2, "tea", 2)}, itemView{2, 0, false}},
		{"removed at the same stamp by another device", []impl.Op{addedOp(3, 4, "tea", 2, 1), removedOp(0, 4, "tea", 2)}, itemView{2, 0, false}},
		{"removed at an earlier stamp", []impl.Op{addedOp(1, 9, "tea", 2, 1), removedOp(0, 4, "tea", 2)}, itemView{2, 0, false}},
		{"added again", []impl.Op{add, removedOp(0, 2, "tea", 2), addedOp(0, 3, "tea", 7, 3)}, itemView{3, 7, false}},
		{"a lower level later", []impl.Op{addedOp(0, 1, "tea", 7, 3), removedOp(1, 5, "tea", 2)}, itemView{3, 7, false}},
		{"the greatest even level", []impl.Op{addedOp(0, 1, "tea", 7, 99), removedOp(1, 1, "tea", 100)}, itemView{100, 0, false}},
		{"the greatest odd level", []impl.Op{addedOp(0, 2, "tea", 7, 99), removedOp(1, 3, "tea", 98)}, itemView{99, 7, false}},
		{"never added", []impl.Op{setOp(0, 1, "tea", 4), savedOp(0, 2, "tea"), backOp(0, 3, "tea"), savedOp(1, 9, "tea")}, itemView{}},
		{"set and saved after removal", []impl.Op{add, removedOp(0, 2, "tea", 2), setOp(0, 3, "tea", 4), savedOp(0, 4, "tea")}, itemView{2, 0, false}},
	})
}

func TestLastQuantity(t *testing.T) {
	add := addedOp(0, 1, "tea", 2, 1)
	wantViews(t, []viewCase{
		{"set", []impl.Op{add, setOp(0, 2, "tea", 5)}, itemView{1, 5, false}},
		{"set twice", []impl.Op{add, setOp(0, 2, "tea", 5), setOp(0, 3, "tea", 4)}, itemView{1, 4, false}},
		{"set, the lesser device later", []impl.Op{add, setOp(3, 2, "tea", 5), setOp(0, 3, "tea", 4)}, itemView{1, 4, false}},
		{"set, the greater device later", []impl.Op{add, setOp(3, 3, "tea", 5), setOp(0, 2, "tea", 4)}, itemView{1, 5, false}},
		{"set at the same stamp", []impl.Op{add, setOp(0, 5, "tea", 9), setOp(1, 5, "tea", 8), setOp(2, 5, "tea", 7)}, itemView{1, 7, false}},
		{"set at the same stamp, the greater number of the lesser device", []impl.Op{add, setOp(0, 4, "tea", 3), setOp(0, 5, "tea", 9), setOp(1, 5, "tea", 8)}, itemView{1, 8, false}},
		{"added and set at the same stamp", []impl.Op{add, setOp(1, 1, "tea", 8)}, itemView{1, 8, false}},
		{"set and added at the same stamp", []impl.Op{setOp(0, 1, "tea", 8), addedOp(1, 1, "tea", 2, 1)}, itemView{1, 2, false}},
		{"added after it was set", []impl.Op{add, setOp(0, 2, "tea", 8), addedOp(1, 3, "tea", 6, 1)}, itemView{1, 6, false}},
		{"the lower level later", []impl.Op{addedOp(0, 1, "tea", 9, 5), addedOp(1, 2, "tea", 3, 1)}, itemView{5, 3, false}},
		{"set before it was added", []impl.Op{setOp(1, 1, "tea", 8), addedOp(0, 3, "tea", 6, 1)}, itemView{1, 6, false}},
		{"set while it was removed", []impl.Op{add, removedOp(0, 2, "tea", 2), setOp(1, 9, "tea", 8), addedOp(0, 3, "tea", 6, 3)}, itemView{3, 8, false}},
		{"saved after it was set", []impl.Op{add, setOp(1, 2, "tea", 999), savedOp(0, 3, "tea")}, itemView{1, 999, true}},
		{"removal of a lower level at the end", []impl.Op{addedOp(0, 1, "tea", 4, 3), removedOp(2, 9, "tea", 2)}, itemView{3, 4, false}},
	})
}

func TestLastPlace(t *testing.T) {
	add := addedOp(0, 1, "tea", 2, 1)
	wantViews(t, []viewCase{
		{"saved", []impl.Op{add, savedOp(0, 2, "tea")}, itemView{1, 2, true}},
		{"taken back", []impl.Op{add, savedOp(0, 2, "tea"), backOp(0, 3, "tea")}, itemView{1, 2, false}},
		{"saved again", []impl.Op{add, savedOp(0, 2, "tea"), backOp(0, 3, "tea"), savedOp(0, 4, "tea")}, itemView{1, 2, true}},
		{"set after it was saved", []impl.Op{add, savedOp(0, 2, "tea"), setOp(1, 3, "tea", 6)}, itemView{1, 6, true}},
		{"added after it was saved", []impl.Op{add, savedOp(0, 2, "tea"), addedOp(1, 3, "tea", 6, 1)}, itemView{1, 6, false}},
		{"saved before it was added", []impl.Op{savedOp(1, 1, "tea"), addedOp(0, 2, "tea", 2, 1)}, itemView{1, 2, false}},
		{"added again after it was saved and removed", []impl.Op{add, savedOp(0, 2, "tea"), removedOp(0, 3, "tea", 2), addedOp(0, 4, "tea", 6, 3)}, itemView{3, 6, false}},
		{"added and saved at the same stamp", []impl.Op{add, savedOp(1, 1, "tea")}, itemView{1, 2, true}},
		{"saved and added at the same stamp", []impl.Op{savedOp(0, 1, "tea"), addedOp(1, 1, "tea", 2, 1)}, itemView{1, 2, false}},
		{"saved and taken back at the same stamp", []impl.Op{add, savedOp(1, 5, "tea"), backOp(2, 5, "tea")}, itemView{1, 2, false}},
		{"taken back and saved at the same stamp", []impl.Op{add, backOp(1, 5, "tea"), savedOp(2, 5, "tea")}, itemView{1, 2, true}},
		{"the lesser device later", []impl.Op{add, backOp(3, 5, "tea"), savedOp(0, 6, "tea")}, itemView{1, 2, true}},
		{"the greater device later", []impl.Op{add, backOp(3, 6, "tea"), savedOp(0, 5, "tea")}, itemView{1, 2, false}},
		{"removal of a lower level at the end", []impl.Op{addedOp(0, 1, "tea", 4, 3), savedOp(0, 2, "tea"), removedOp(2, 9, "tea", 2)}, itemView{3, 4, true}},
	})
}

func TestOnlyLiveOpsCount(t *testing.T) {
	add := addedOp(0, 1, "tea", 2, 1)
	wantViews(t, []viewCase{
		{"addition undone", []impl.Op{undone(add, 1)}, itemView{}},
		{"addition undone 49 times", []impl.Op{undone(add, 49)}, itemView{}},
		{"addition undone 50 times", []impl.Op{undone(add, 50)}, itemView{1, 2, false}},
		{"addition undone and done again", []impl.Op{undone(add, 2)}, itemView{1, 2, false}},
		{"removal undone", []impl.Op{add, undone(removedOp(1, 2, "tea", 2), 1)}, itemView{1, 2, false}},
		{"removal undone twice", []impl.Op{add, undone(removedOp(1, 2, "tea", 2), 2)}, itemView{2, 0, false}},
		{"second addition undone", []impl.Op{add, removedOp(0, 2, "tea", 2), undone(addedOp(0, 3, "tea", 5, 3), 1)}, itemView{2, 0, false}},
		{"first addition undone", []impl.Op{undone(add, 3), removedOp(0, 2, "tea", 2), addedOp(0, 3, "tea", 5, 3)}, itemView{3, 5, false}},
		{"last quantity undone", []impl.Op{add, setOp(0, 2, "tea", 6), undone(setOp(0, 3, "tea", 7), 1)}, itemView{1, 6, false}},
		{"both quantities undone", []impl.Op{add, undone(setOp(0, 2, "tea", 6), 5), undone(setOp(0, 3, "tea", 7), 1)}, itemView{1, 2, false}},
		{"saving undone", []impl.Op{add, undone(savedOp(0, 2, "tea"), 1)}, itemView{1, 2, false}},
		{"taking back undone", []impl.Op{add, savedOp(0, 2, "tea"), undone(backOp(0, 3, "tea"), 1)}, itemView{1, 2, true}},
		{"later addition undone", []impl.Op{add, savedOp(0, 2, "tea"), undone(addedOp(2, 3, "tea", 9, 1), 1)}, itemView{1, 2, true}},
	})
}

func TestLinesAreInOrder(t *testing.T) {
	items := []string{"b", "a0", "zzzzzzzz", "a", "10", "9", "aa", "0", "ab", "tea", "te", "teas"}
	var ops []impl.Op
	for i, item := range items {
		ops = append(ops, addedOp(int64(i)%4, int64(i/4)+1, item, int64(i)+1, 1))
	}
	c := cartOf(t, append(ops, savedOp(2, 50, "9"), removedOp(3, 51, "ab", 2), savedOp(0, 52, "te"), setOp(1, 53, "te", 30))...)
	wantLines(t, c, []impl.Line{
		{Item: "0", Qty: 8}, {Item: "10", Qty: 5}, {Item: "9", Qty: 6, Saved: true}, {Item: "a", Qty: 4}, {Item: "a0", Qty: 2}, {Item: "aa", Qty: 7},
		{Item: "b", Qty: 1}, {Item: "te", Qty: 30, Saved: true}, {Item: "tea", Qty: 10}, {Item: "teas", Qty: 12}, {Item: "zzzzzzzz", Qty: 3},
	}, 8+5+4+2+7+1+10+12+3)
}

// manyItems returns a cart with as many lines as there can be.
func manyItems(t *testing.T) impl.Cart {
	t.Helper()
	var ops []impl.Op
	for dev := range int64(impl.Devices) {
		for seq := int64(1); seq <= impl.MaxSeq; seq++ {
			ops = append(ops, addedOp(dev, seq, "x"+string(rune('0'+dev))+string(rune('a'+seq%8))+string(rune('a'+seq/8)), impl.MaxQty, 1))
		}
	}
	return cartOf(t, ops...)
}

func TestTotals(t *testing.T) {
	c := manyItems(t)
	if lines := impl.LinesOf(c); len(lines) != 160 || len(impl.ItemsOf(c)) != 160 || !slices.IsSortedFunc(lines, func(a, b impl.Line) int { return strings.Compare(a.Item, b.Item) }) {
		t.Errorf("LinesOf = %v", lines)
	}
	if got := impl.Total(c); got != 160*999 {
		t.Errorf("Total = %d", got)
	}
	wantLines(t, cartOf(t, addedOp(0, 1, "tea", 3, 1), savedOp(0, 2, "tea")), []impl.Line{{Item: "tea", Qty: 3, Saved: true}}, 0)
	wantLines(t, cartOf(t, addedOp(0, 1, "tea", 3, 1), addedOp(1, 1, "egg", 4, 1), savedOp(0, 2, "tea")), []impl.Line{{Item: "egg", Qty: 4}, {Item: "tea", Qty: 3, Saved: true}}, 4)
	wantLines(t, impl.CartNew(), nil, 0)
}

func TestViewsOfOtherItems(t *testing.T) {
	c := cartOf(t, addedOp(0, 1, "tea", 3, 1), savedOp(0, 2, "tea"))
	for _, item := range []string{"", "te", "teas", "Tea", "tea ", " tea", "tea\x00", "\xff", "eat", strings.Repeat("tea", 3000)} {
		wantView(t, c, item, itemView{})
	}
	wantView(t, c, "tea", itemView{1, 3, true})
}

func TestViewsRejectNotCarts(t *testing.T) {
	good := cartOf(t, addedOp(0, 1, "tea", 3, 1), addedOp(1, 1, "egg", 4, 1), savedOp(0, 2, "tea"))
	bad := notCarts()
	for dev := range good.Vec {
		other := copyOf(good)
		other.Vec[dev]++
		bad = append(bad, other)
	}
	bad = append(bad, impl.Cart{Vec: good.Vec[:3], Ops: good.Ops}, impl.Cart{Vec: good.Vec, Ops: append(copyOf(good).Ops, impl.Op{})})
	for _, c := range bad {
		for _, item := range []string{"tea", "egg", "egg7", "0", "z", "a", ""} {
			wantView(t, c, item, itemView{})
		}
		wantLines(t, c, nil, 0)
	}
}

func TestPresentItemsHaveQuantities(t *testing.T) {
	d := dice{state: 5}
	for range 4000 {
		c := d.cart(t)
		views := replayed(c)
		for _, item := range diceItems {
			wantView(t, c, item, views[item])
			if present := impl.LevelOf(c, item)%2 == 1; present != (impl.QtyOf(c, item) >= 1) || impl.QtyOf(c, item) > impl.MaxQty {
				t.Errorf("%q in %v: the level is %d and the quantity %d", item, c, impl.LevelOf(c, item), impl.QtyOf(c, item))
			}
		}
		lines, total := linesBy(views)
		wantLines(t, c, lines, total)
		if t.Failed() {
			return
		}
	}
}

func TestViewArgumentsAreKept(t *testing.T) {
	for _, vec := range [][4]int64{{0, 0, 0, 0}, {2, 0, 3, 1}, {40, 40, 40, 40}} {
		c, behind := spareCart(plan{vec, unevenly})
		want := copyOf(behind)
		items, lines := impl.ItemsOf(c), impl.LinesOf(c)
		wantedItems, wantedLines := slices.Clone(items), slices.Clone(lines)
		for i := range items {
			items[i] = "spoiled"
			lines[i] = impl.Line{Item: "spoiled", Qty: -7}
		}
		impl.Total(c)
		impl.LevelOf(c, "tea")
		impl.QtyOf(c, "tea")
		impl.SavedOf(c, "tea")
		if !sameCart(behind, want) {
			t.Errorf("the argument is now %v; it was %v", behind, want)
		}
		if !slices.Equal(impl.ItemsOf(c), wantedItems) || !slices.Equal(impl.LinesOf(c), wantedLines) {
			t.Errorf("equal arguments: %v, %v, then %v, %v", wantedItems, wantedLines, impl.ItemsOf(c), impl.LinesOf(c))
		}
	}
}
