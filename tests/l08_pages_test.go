package tests

import (
	"cmp"
	"math"
	"slices"
	"strings"
	"testing"

	"loop.example/g00660/impl"
)

// sortedOps says what the history is by sorting.
func sortedOps(c impl.Cart) []impl.Op {
	ops := slices.Clone(c.Ops)
	slices.SortFunc(ops, func(a, b impl.Op) int {
		return cmp.Or(cmp.Compare(a.Stamp, b.Stamp), cmp.Compare(a.Dev, b.Dev), cmp.Compare(a.Seq, b.Seq))
	})
	return ops
}

func told(ops []impl.Op) string {
	var words []string
	for _, o := range ops {
		words = append(words, impl.Told(o))
	}
	return strings.Join(words, "; ")
}

func wantTold(t *testing.T, what string, ops []impl.Op, want string) {
	t.Helper()
	if got := told(ops); got != want {
		t.Errorf("%s: %q; want %q", what, got, want)
	}
}

// historyCarts have between no and all the operations that a cart can have, with equal and different stamps.
func historyCarts(t *testing.T) []impl.Cart {
	t.Helper()
	carts := []impl.Cart{impl.CartNew(), fullestCart(), manyItems(t)}
	for _, p := range plans() {
		carts = append(carts, p.cart())
	}
	d := dice{state: 80}
	for range 300 {
		carts = append(carts, d.cart(t))
	}
	return carts
}

func exampleCart(t *testing.T) impl.Cart {
	t.Helper()
	c := issue(t, impl.CartNew(), 1, addCmd("tea", 3))
	c = issue(t, c, 0, setCmd("tea", 4))
	return issue(t, c, 1, removeCmd("tea"), undoCmd)
}

func TestHistoryExample(t *testing.T) {
	c := exampleCart(t)
	wantTold(t, "History", impl.History(c), "add tea 3; set tea 4; remove tea (undone)")
	wantTold(t, "the first page", impl.Page(c, 0, 2), "add tea 3; set tea 4")
	wantTold(t, "the second page", impl.Page(c, 2, 2), "remove tea (undone)")
	wantTold(t, "the third page", impl.Page(c, 4, 2), "")
	wantTold(t, "Named of device 0", impl.Named(c, 0), "set tea 4")
	wantTold(t, "Named of device 1", impl.Named(c, 1), "add tea 3; remove tea (undone)")
	wantTold(t, "Named of device 2", impl.Named(c, 2), "")
}

func TestHistoryListsAllOpsInOrder(t *testing.T) {
	for _, c := range historyCarts(t) {
		history := impl.History(c)
		if !slices.Equal(history, sortedOps(c)) {
			t.Fatalf("History(%v) = %v; want %v", c, history, sortedOps(c))
		}
		for i := 1; i < len(history); i++ {
			if !impl.Before(history[i-1], history[i]) {
				t.Fatalf("History(%v): %v does not precede %v", c, history[i-1], history[i])
			}
		}
	}
}

func TestHistoryWithEqualStamps(t *testing.T) {
	c := cartOf(t, savedOp(3, 5, "a"), savedOp(2, 5, "b"), savedOp(0, 5, "c"), savedOp(1, 5, "d"), savedOp(3, 6, "e"), savedOp(0, 4, "f"), savedOp(1, 6, "g"), undone(savedOp(0, 6, "h"), 1), savedOp(2, 100000, "i"), savedOp(2, 1, "j"))
	wantTold(t, "History", impl.History(c), "save j; save f; save c; save d; save b; save a; save h (undone); save g; save e; save i")
	// One device has all its operations before those of the other, or after them.
	c = cartOf(t, savedOp(3, 1, "a"), savedOp(3, 2, "b"), savedOp(3, 3, "c"), savedOp(0, 3, "d"), savedOp(0, 4, "e"), savedOp(1, 3, "f"))
	wantTold(t, "History", impl.History(c), "save a; save b; save d; save f; save c; save e")
}

func TestPagesOfHistories(t *testing.T) {
	for _, c := range []impl.Cart{impl.CartNew(), exampleCart(t), plan{[4]int64{2, 0, 3, 4}, unevenly}.cart(), plan{[4]int64{0, 0, 0, 1}, never}.cart()} {
		history := sortedOps(c)
		for from := int64(-4); from <= int64(len(history))+3; from++ {
			for n := int64(-4); n <= int64(len(history))+7; n++ {
				var want []impl.Op
				for i := max(from, 0); i < max(from, 0)+n && i < int64(len(history)); i++ {
					want = append(want, history[i])
				}
				if got := impl.Page(c, from, n); !slices.Equal(got, want) {
					t.Errorf("Page(%v, %d, %d) = %v; want %v", c, from, n, got, want)
				}
			}
		}
	}
}

func TestPagesAtLimits(t *testing.T) {
	c := fullestCart()
	history := sortedOps(c)
	large := []int64{160, 161, 999, 1000, 1001, 2000, 1 << 32, math.MaxInt64 - 1, math.MaxInt64}
	for _, n := range large {
		wantOps(t, "a page of everything", impl.Page(c, 0, n), history)
		wantOps(t, "a page of everything", impl.Page(c, -1, n), history)
		wantOps(t, "a page of everything", impl.Page(c, math.MinInt64, n), history)
		wantOps(t, "a page to the end", impl.Page(c, 7, n), history[7:])
		wantOps(t, "a page of the last operation", impl.Page(c, 159, n), history[159:])
		for _, from := range large {
			wantOps(t, "a page beyond the end", impl.Page(c, from, n), nil)
		}
	}
	for _, from := range append(large, math.MinInt64, -1, 0, 7) {
		for _, n := range []int64{0, -1, -2, -1000, -1 << 32, math.MinInt64} {
			wantOps(t, "a page of no length", impl.Page(c, from, n), nil)
		}
	}
	wantOps(t, "a page from a negative index", impl.Page(c, math.MinInt64, 3), history[:3])
	wantOps(t, "a page from a negative index", impl.Page(c, -2, 3), history[:3])
}

func TestAdjacentPagesAreOnePage(t *testing.T) {
	for _, c := range historyCarts(t) {
		for _, n := range []int64{1, 2, 7, 159, 160, 161} {
			var all []impl.Op
			for from := int64(0); from < 162; from += n {
				all = append(all, impl.Page(c, from, n)...)
			}
			wantOps(t, "all pages", all, sortedOps(c))
		}
		for _, cut := range [][3]int64{{0, 0, 5}, {0, 3, 4}, {1, 1, 1}, {2, 50, 60}, {5, 500, 500}} {
			from, n, m := cut[0], cut[1], cut[2]
			both := append(impl.Page(c, from, n), impl.Page(c, from+n, m)...)
			wantOps(t, "two pages", both, impl.Page(c, from, n+m))
		}
		if t.Failed() {
			return
		}
	}
}

func TestToldOfEachKind(t *testing.T) {
	for _, c := range []struct {
		o    impl.Op
		want string
	}{
		{addedOp(0, 1, "tea", 3, 1), "add tea 3"},
		{addedOp(0, 1, "a", 999, 99), "add a 999"},
		{addedOp(0, 1, "12345678", 10, 1), "add 12345678 10"},
		{setOp(2, 7, "egg", 1), "set egg 1"},
		{setOp(2, 7, "0", 100), "set 0 100"},
		{removedOp(3, 100000, "tea", 2), "remove tea"},
		{removedOp(3, 100000, "abcdefgh", 100), "remove abcdefgh"},
		{savedOp(1, 50, "tea"), "save tea"},
		{backOp(1, 50, "z9"), "back z9"},
	} {
		c.o.Seq = 40
		for undos := int64(0); undos <= impl.MaxUndo; undos++ {
			want := c.want
			if undos&1 == 1 {
				want += " (undone)"
			}
			c.o.Undos = undos
			if got := impl.Told(c.o); got != want {
				t.Errorf("Told(%+v) = %q; want %q", c.o, got, want)
			}
		}
	}
	for qty := int64(1); qty <= impl.MaxQty; qty++ {
		o := setOp(0, 1, "tea", qty)
		o.Seq = 1
		digits := strings.TrimLeft(string([]byte{byte('0' + qty/100), byte('0' + qty/10%10), byte('0' + qty%10)}), "0")
		if got := impl.Told(o); got != "set tea "+digits {
			t.Errorf("Told(%+v) = %q", o, got)
		}
	}
}

func TestToldOfNotOps(t *testing.T) {
	for _, o := range notOps() {
		if got := impl.Told(o); got != "" {
			t.Errorf("Told(%+v) = %q; want nothing", o, got)
		}
	}
}

func TestNamedListsOneDevice(t *testing.T) {
	for _, c := range historyCarts(t) {
		for dev := range int64(impl.Devices) {
			var want []impl.Op
			for _, o := range c.Ops {
				if o.Dev == dev {
					want = append(want, o)
				}
			}
			got := impl.Named(c, dev)
			if !slices.Equal(got, want) || int64(len(got)) != c.Vec[dev] {
				t.Fatalf("Named(%v, %d) = %v; want %v", c, dev, got, want)
			}
		}
		for _, dev := range notDevices {
			wantOps(t, "Named of no device", impl.Named(c, dev), nil)
		}
	}
}

func TestHistoryOfNotCarts(t *testing.T) {
	for _, c := range notCarts() {
		wantOps(t, "History of a cart that is not valid", impl.History(c), nil)
		for _, page := range [][2]int64{{0, 0}, {0, 1}, {-1, 1000}, {1, 9}, {0, -1}, {0, math.MaxInt64}, {math.MinInt64, math.MinInt64}} {
			wantOps(t, "Page of a cart that is not valid", impl.Page(c, page[0], page[1]), nil)
		}
		for _, dev := range append([]int64{0, 1, 2, 3}, notDevices...) {
			wantOps(t, "Named of a cart that is not valid", impl.Named(c, dev), nil)
		}
	}
}

func TestHistoryArgumentsAreKept(t *testing.T) {
	for _, vec := range [][4]int64{{0, 0, 0, 0}, {2, 0, 3, 1}, {0, 0, 0, 5}, {40, 40, 40, 40}} {
		c, behind := spareCart(plan{vec, unevenly})
		wantBehind := copyOf(behind)
		for name, list := range map[string]func() []impl.Op{
			"History":          func() []impl.Op { return impl.History(c) },
			"Page":             func() []impl.Op { return impl.Page(c, 0, 1000) },
			"Page, a short":    func() []impl.Op { return impl.Page(c, 1, 2) },
			"Page, an empty":   func() []impl.Op { return impl.Page(c, 1, 0) },
			"Named, device 0":  func() []impl.Op { return impl.Named(c, 0) },
			"Named, device 2":  func() []impl.Op { return impl.Named(c, 2) },
			"Named, device 3":  func() []impl.Op { return impl.Named(c, 3) },
			"Named, no device": func() []impl.Op { return impl.Named(c, 4) },
		} {
			first := list()
			want := slices.Clone(first)
			if sharesTexts(first, c.Ops) {
				t.Errorf("%s: an item shares memory with the argument", name)
			}
			spoilOps(first)
			wantOps(t, name+" with equal arguments", list(), want)
			if !sameCart(behind, wantBehind) {
				t.Fatalf("%s: the argument is now %v; it was %v", name, behind, wantBehind)
			}
		}
	}
}
