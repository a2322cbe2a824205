package tests

import (
	"encoding/binary"
	"slices"
	"strings"
	"testing"

	"loop.example/g00660/impl"
)

// plan describes a cart: which operations of the history it has, and how often they were undone.
type plan struct {
	vec   [impl.Devices]int64
	undos func(dev int64, seq int64) int64
}

func never(dev int64, seq int64) int64 { return 0 }

func often(dev int64, seq int64) int64 { return impl.MaxUndo }

func unevenly(dev int64, seq int64) int64 { return (dev*17 + seq*29) % 51 }

func otherwise(dev int64, seq int64) int64 { return (dev*5 + seq*38 + 20) % 51 }

// historyOp is the operation of the one history from which the carts of these tests are taken.
// Its stamps are equal for operations of two devices.
func historyOp(dev int64, seq int64) impl.Op {
	o := kindOps()[(dev+seq)%5]
	o.Dev, o.Seq, o.Stamp = dev, seq, seq*(dev%2*2+1)*833
	return o
}

func (p plan) has(dev int64, seq int64) bool {
	return seq <= p.vec[dev]
}

func (p plan) cart() impl.Cart {
	c := impl.Cart{Vec: slices.Clone(p.vec[:])}
	for dev, last := range p.vec {
		for seq := int64(1); seq <= last; seq++ {
			o := historyOp(int64(dev), seq)
			o.Undos = p.undos(o.Dev, o.Seq)
			c.Ops = append(c.Ops, o)
		}
	}
	return c
}

// mergedWith says what the merge of two carts is by the history, without looking at their lists.
func (p plan) mergedWith(q plan) plan {
	var both plan
	for dev := range both.vec {
		both.vec[dev] = max(p.vec[dev], q.vec[dev])
	}
	both.undos = func(dev int64, seq int64) int64 {
		switch {
		case !q.has(dev, seq):
			return p.undos(dev, seq)
		case !p.has(dev, seq):
			return q.undos(dev, seq)
		}
		return max(p.undos(dev, seq), q.undos(dev, seq))
	}
	return both
}

func (p plan) within(q plan) bool {
	for dev, last := range p.vec {
		for seq := int64(1); seq <= last; seq++ {
			if !q.has(int64(dev), seq) || p.undos(int64(dev), seq) > q.undos(int64(dev), seq) {
				return false
			}
		}
	}
	return true
}

func plans() []plan {
	var list []plan
	for _, vec := range [][impl.Devices]int64{
		{0, 0, 0, 0}, {1, 0, 0, 0}, {0, 0, 0, 1}, {0, 1, 0, 0}, {2, 0, 3, 0}, {2, 1, 0, 5},
		{0, 7, 2, 2}, {40, 0, 0, 0}, {0, 0, 0, 40}, {1, 40, 1, 3}, {39, 39, 40, 40}, {40, 40, 40, 40},
	} {
		for _, undos := range []func(int64, int64) int64{never, often, unevenly, otherwise} {
			list = append(list, plan{vec, undos})
		}
	}
	return list
}

// fullestCart has as many operations as a cart can have, with the longest encodings.
func fullestCart() impl.Cart {
	c := impl.Cart{Vec: []int64{40, 40, 40, 40}}
	for dev := range int64(4) {
		for seq := int64(1); seq <= 40; seq++ {
			c.Ops = append(c.Ops, impl.Op{Dev: dev, Seq: seq, Stamp: 99960 + seq, Kind: impl.OkAdd, Item: "zzzzzzzz", Qty: 999, Level: 99, Undos: 50})
		}
	}
	return c
}

func saveOp(dev int64, seq int64, stamp int64) impl.Op {
	return impl.Op{Dev: dev, Seq: seq, Stamp: stamp, Kind: impl.OkSave, Item: "tea"}
}

// misshapenCarts have a list that is not a vector.
func misshapenCarts() []impl.Cart {
	var list []impl.Cart
	for _, vec := range notVectors() {
		list = append(list, impl.Cart{Vec: vec}, impl.Cart{Vec: vec, Ops: plan{[4]int64{1, 2, 3, 4}, never}.cart().Ops})
	}
	return append(list, impl.Cart{Vec: []int64{41, 0, 0, 0}, Ops: append(plan{[4]int64{40, 0, 0, 0}, never}.cart().Ops, saveOp(0, 41, 100000))})
}

// uncountedCarts have a vector that differs from the operations, or operations in another order.
func uncountedCarts() []impl.Cart {
	good := plan{[4]int64{2, 0, 3, 1}, unevenly}.cart()
	var list []impl.Cart
	for dev := range good.Vec {
		for _, by := range []int64{-1, 1, 2, 34} {
			vec := slices.Clone(good.Vec)
			vec[dev] = max(vec[dev]+by, 0)
			if !slices.Equal(vec, good.Vec) {
				list = append(list, impl.Cart{Vec: vec, Ops: good.Ops})
			}
		}
	}
	for i, o := range good.Ops {
		list = append(list, impl.Cart{Vec: good.Vec, Ops: slices.Delete(slices.Clone(good.Ops), i, i+1)})
		list = append(list, impl.Cart{Vec: good.Vec, Ops: slices.Insert(slices.Clone(good.Ops), i, o)})
		for j := range i {
			swapped := slices.Clone(good.Ops)
			swapped[i], swapped[j] = swapped[j], swapped[i]
			list = append(list, impl.Cart{Vec: good.Vec, Ops: swapped})
		}
	}
	return append(list,
		impl.Cart{Vec: []int64{0, 0, 2, 0}, Ops: good.Ops},
		impl.Cart{Vec: []int64{3, 0, 2, 1}, Ops: good.Ops},
		impl.Cart{Vec: []int64{0, 2, 3, 1}, Ops: good.Ops},
		impl.Cart{Vec: []int64{0, 0, 0, 0}, Ops: good.Ops[:1]},
		impl.Cart{Vec: []int64{0, 0, 0, 0}, Ops: []impl.Op{{}}},
		impl.Cart{Vec: []int64{1, 0, 0, 0}, Ops: []impl.Op{saveOp(0, 2, 1)}},
		impl.Cart{Vec: []int64{1, 0, 0, 0}, Ops: []impl.Op{saveOp(1, 1, 1)}},
		impl.Cart{Vec: []int64{2, 0, 0, 0}, Ops: []impl.Op{saveOp(0, 1, 1), saveOp(0, 3, 3)}},
		impl.Cart{Vec: []int64{2, 0, 0, 0}, Ops: []impl.Op{saveOp(0, 2, 1), saveOp(0, 1, 2)}},
		impl.Cart{Vec: []int64{2, 0, 0, 0}, Ops: []impl.Op{saveOp(0, 1, 1), saveOp(1, 2, 2)}},
		impl.Cart{Vec: []int64{1, 1, 0, 0}, Ops: []impl.Op{saveOp(1, 1, 1), saveOp(0, 1, 2)}},
	)
}

// unstampedCarts have stamps that are equal, or that decrease, within one device.
func unstampedCarts() []impl.Cart {
	var list []impl.Cart
	for dev := range int64(impl.Devices) {
		for _, stamps := range [][3]int64{{5, 5, 6}, {5, 6, 6}, {6, 5, 7}, {6, 7, 5}, {6, 7, 6}, {100000, 100000, 100000}, {100000, 99999, 99998}, {99999, 100000, 1}} {
			c := impl.Cart{Vec: []int64{1, 1, 1, 1}}
			c.Vec[dev] = 3
			for i, last := range c.Vec {
				for seq := range last {
					c.Ops = append(c.Ops, saveOp(int64(i), seq+1, stamps[seq]))
				}
			}
			list = append(list, c)
		}
	}
	return list
}

// brokenCarts have an operation that is not valid.
func brokenCarts() []impl.Cart {
	ops := kindOps()
	for i := range ops {
		ops[i].Dev, ops[i].Seq, ops[i].Stamp = 1, 2, 50
	}
	var list []impl.Cart
	for _, bad := range append(brokenOps(ops), impl.Op{}) {
		list = append(list, impl.Cart{Vec: []int64{1, 3, 0, 0}, Ops: []impl.Op{saveOp(0, 1, 1), saveOp(1, 1, 1), bad, saveOp(1, 3, 51)}})
		list = append(list, impl.Cart{Vec: []int64{1, 2, 0, 0}, Ops: []impl.Op{saveOp(0, 1, 1), saveOp(1, 1, 1), bad}})
	}
	return list
}

func notCarts() []impl.Cart {
	return slices.Concat([]impl.Cart{{}}, misshapenCarts(), uncountedCarts(), unstampedCarts(), brokenCarts())
}

func sameCart(a impl.Cart, b impl.Cart) bool {
	return slices.Equal(a.Vec, b.Vec) && slices.Equal(a.Ops, b.Ops)
}

func copyOf(c impl.Cart) impl.Cart {
	return impl.Cart{Vec: slices.Clone(c.Vec), Ops: slices.Clone(c.Ops)}
}

func mustMerge(t *testing.T, a impl.Cart, b impl.Cart) impl.Cart {
	t.Helper()
	m, ok := impl.Merged(a, b)
	if !ok {
		t.Fatalf("Merged(%v, %v) = false", a, b)
	}
	return m
}

func wantNoMerge(t *testing.T, a impl.Cart, b impl.Cart) {
	t.Helper()
	if m, ok := impl.Merged(a, b); !sameCart(m, impl.Cart{}) || ok {
		t.Errorf("Merged(%v, %v) = %v, %t; want the zero value, false", a, b, m, ok)
	}
}

func wantNoCart(t *testing.T, s string) {
	t.Helper()
	if c, ok := impl.ReadCart(s); !sameCart(c, impl.Cart{}) || ok {
		t.Errorf("ReadCart(%q) = %v, %t; want the zero value, false", s, c, ok)
	}
}

// bodyAnyway is the encoding of a cart without the checksum, whether the cart is valid or not.
func bodyAnyway(c impl.Cart) string {
	var out []byte
	for _, n := range c.Vec {
		out = binary.AppendUvarint(out, uint64(n))
	}
	for _, o := range c.Ops {
		out = append(out, encodedAnyway(o)...)
	}
	return string(out)
}

func TestCartNew(t *testing.T) {
	c := impl.CartNew()
	if !slices.Equal(c.Vec, []int64{0, 0, 0, 0}) || len(c.Ops) != 0 || !impl.CartOk(c) {
		t.Errorf("CartNew() = %v", c)
	}
	c.Vec[2] = 7
	if again := impl.CartNew(); !slices.Equal(again.Vec, []int64{0, 0, 0, 0}) {
		t.Errorf("CartNew() = %v after the result of another call was modified", again)
	}
}

func TestCartOkOfCarts(t *testing.T) {
	for _, p := range plans() {
		if c := p.cart(); !impl.CartOk(c) {
			t.Errorf("CartOk(%v) = false", c)
		}
	}
	for _, c := range []impl.Cart{
		fullestCart(),
		{Vec: []int64{0, 0, 0, 0}, Ops: []impl.Op{}},
		{Vec: []int64{2, 0, 0, 0}, Ops: []impl.Op{saveOp(0, 1, 1), saveOp(0, 2, 100000)}},
		{Vec: []int64{2, 0, 2, 0}, Ops: []impl.Op{saveOp(0, 1, 99999), saveOp(0, 2, 100000), saveOp(2, 1, 1), saveOp(2, 2, 2)}},
		{Vec: []int64{1, 1, 1, 1}, Ops: []impl.Op{saveOp(0, 1, 5), saveOp(1, 1, 5), saveOp(2, 1, 5), saveOp(3, 1, 5)}},
	} {
		if !impl.CartOk(c) {
			t.Errorf("CartOk(%v) = false", c)
		}
	}
}

func TestCartFunctionsRejectNotCarts(t *testing.T) {
	good := plan{[4]int64{1, 0, 2, 0}, never}.cart()
	for _, bad := range notCarts() {
		if impl.CartOk(bad) {
			t.Errorf("CartOk(%v) = true", bad)
		}
		if s := impl.CartBytes(bad); s != "" {
			t.Errorf("CartBytes(%v) = %q", bad, s)
		}
		for _, c := range []impl.Cart{impl.CartNew(), good, fullestCart(), bad} {
			wantNoMerge(t, bad, c)
			wantNoMerge(t, c, bad)
			if impl.Within(bad, c) || impl.Within(c, bad) {
				t.Errorf("%v is within %v or the other way round", bad, c)
			}
		}
	}
}

func TestMergedExample(t *testing.T) {
	a := impl.Cart{Vec: []int64{2, 0, 0, 0}, Ops: []impl.Op{saveOp(0, 1, 1), saveOp(0, 2, 2)}}
	b := impl.Cart{Vec: []int64{1, 1, 0, 0}, Ops: []impl.Op{saveOp(0, 1, 1), saveOp(1, 1, 2)}}
	want := impl.Cart{Vec: []int64{2, 1, 0, 0}, Ops: []impl.Op{saveOp(0, 1, 1), saveOp(0, 2, 2), saveOp(1, 1, 2)}}
	if m := mustMerge(t, a, b); !sameCart(m, want) {
		t.Errorf("Merged = %v; want %v", m, want)
	}
}

func TestMergedTakesTheGreaterUndos(t *testing.T) {
	for x := range int64(impl.MaxUndo + 1) {
		for y := range int64(impl.MaxUndo + 1) {
			a := plan{[4]int64{1, 2, 0, 0}, never}.cart()
			b := plan{[4]int64{0, 2, 1, 0}, never}.cart()
			a.Ops[1].Undos, b.Ops[0].Undos = x, y
			a.Ops[2].Undos, b.Ops[1].Undos = y, x
			m := mustMerge(t, a, b)
			if len(m.Ops) != 4 || m.Ops[1].Undos != max(x, y) || m.Ops[2].Undos != max(x, y) || m.Ops[0].Undos != 0 || m.Ops[3].Undos != 0 {
				t.Errorf("Undos %d and %d: Merged = %v", x, y, m)
			}
		}
	}
}

func TestMergedHasBothCarts(t *testing.T) {
	for _, p := range plans() {
		for _, q := range plans() {
			a, b := p.cart(), q.cart()
			m := mustMerge(t, a, b)
			if want := p.mergedWith(q).cart(); !sameCart(m, want) {
				t.Fatalf("Merged(%v, %v) = %v; want %v", a, b, m, want)
			}
			if !slices.Equal(m.Vec, impl.VecMax(a.Vec, b.Vec)) || !impl.CartOk(m) || !impl.Within(a, m) || !impl.Within(b, m) {
				t.Fatalf("Merged(%v, %v) = %v", a, b, m)
			}
			if other := mustMerge(t, b, a); !sameCart(m, other) {
				t.Fatalf("Merged of %v, %v is %v, and %v in the other order", a, b, m, other)
			}
			if !sameCart(mustMerge(t, m, a), m) || !sameCart(mustMerge(t, b, m), m) || !sameCart(mustMerge(t, m, m), m) {
				t.Fatalf("merging %v or %v again changes %v", a, b, m)
			}
		}
	}
}

func TestMergedInAnyGrouping(t *testing.T) {
	list := plans()
	for i := 0; i < len(list); i += 3 {
		for j := 1; j < len(list); j += 3 {
			for k := 2; k < len(list); k += 3 {
				a, b, c := list[i].cart(), list[j].cart(), list[k].cart()
				left := mustMerge(t, mustMerge(t, a, b), c)
				right := mustMerge(t, a, mustMerge(t, b, c))
				if !sameCart(left, right) {
					t.Fatalf("Merged of %v, %v, %v is %v or %v", a, b, c, left, right)
				}
			}
		}
	}
}

// unlikeOps are operations with the same Dev, Seq and Undos as the given one, valid and with one other difference each.
// All their stamps are at most one more or less, so that they fit between the same neighbours.
func unlikeOps(o impl.Op) []impl.Op {
	later, earlier, item, shorter, qty, level, kind := o, o, o, o, o, o, o
	later.Stamp++
	earlier.Stamp--
	item.Item = "x" + o.Item[1:]
	shorter.Item = o.Item[1:]
	qty.Qty++
	level.Level += 2
	kind.Kind = impl.OkBack
	if o.Kind == impl.OkAdd {
		kind.Kind, kind.Level = impl.OkSet, 0
		return []impl.Op{later, earlier, item, shorter, qty, level, kind}
	}
	return []impl.Op{later, earlier, item, shorter, kind}
}

func TestMergedRejectsUnlikeOps(t *testing.T) {
	addOp := func(dev int64, seq int64, stamp int64) impl.Op {
		return impl.Op{Dev: dev, Seq: seq, Stamp: stamp, Kind: impl.OkAdd, Item: "egg", Qty: 3, Level: 1}
	}
	a := impl.Cart{Vec: []int64{3, 0, 2, 1}, Ops: []impl.Op{addOp(0, 1, 10), saveOp(0, 2, 20), addOp(0, 3, 30), saveOp(2, 1, 10), addOp(2, 2, 20), addOp(3, 1, 7)}}
	for i, o := range a.Ops {
		for _, unlike := range unlikeOps(o) {
			for _, undos := range []int64{0, 1, 50} {
				b := copyOf(a)
				b.Ops[i] = unlike
				b.Ops[i].Undos = undos
				if !impl.CartOk(b) {
					t.Fatalf("the test's cart %v is not valid", b)
				}
				wantNoMerge(t, a, b)
				wantNoMerge(t, b, a)
				if impl.Within(a, b) || impl.Within(b, a) {
					t.Errorf("%v is within %v or the other way round", a, b)
				}
			}
		}
	}
}

// What only one of the carts has cannot differ, even where the devices' operations are alike.
func TestMergedOfDifferentDevices(t *testing.T) {
	a := impl.Cart{Vec: []int64{1, 0, 1, 0}, Ops: []impl.Op{saveOp(0, 1, 5), saveOp(2, 1, 5)}}
	b := impl.Cart{Vec: []int64{0, 1, 0, 1}, Ops: []impl.Op{saveOp(1, 1, 5), saveOp(3, 1, 5)}}
	want := impl.Cart{Vec: []int64{1, 1, 1, 1}, Ops: []impl.Op{saveOp(0, 1, 5), saveOp(1, 1, 5), saveOp(2, 1, 5), saveOp(3, 1, 5)}}
	if m := mustMerge(t, a, b); !sameCart(m, want) {
		t.Errorf("Merged = %v; want %v", m, want)
	}
	if impl.Within(a, b) || impl.Within(b, a) || !impl.Within(a, want) || !impl.Within(b, want) {
		t.Error("carts of different devices are within their merge only")
	}
}

func TestWithinOfAllPlans(t *testing.T) {
	for _, p := range plans() {
		for _, q := range plans() {
			a, b := p.cart(), q.cart()
			if want := p.within(q); impl.Within(a, b) != want {
				t.Fatalf("Within(%v, %v) = %t", a, b, !want)
			}
			m := mustMerge(t, a, b)
			if impl.Within(a, b) != sameCart(m, b) {
				t.Fatalf("Within(%v, %v) = %t, but they merge to %v", a, b, impl.Within(a, b), m)
			}
		}
	}
}

func TestWithinComparesUndos(t *testing.T) {
	for i := range 6 {
		for _, undos := range []int64{1, 2, 50} {
			a := plan{[4]int64{2, 0, 3, 1}, never}.cart()
			b := copyOf(a)
			b.Ops[i].Undos = undos
			if !impl.Within(a, b) || impl.Within(b, a) || !impl.Within(b, b) {
				t.Errorf("one operation with Undos %d: Within = %t, %t, %t", undos, impl.Within(a, b), impl.Within(b, a), impl.Within(b, b))
			}
		}
	}
}

func TestCartBytesExamples(t *testing.T) {
	for _, c := range []struct {
		cart impl.Cart
		body string
	}{
		{impl.CartNew(), "\x00\x00\x00\x00"},
		{impl.Cart{Vec: []int64{0, 1, 0, 0}, Ops: []impl.Op{saveOp(1, 1, 300)}}, "\x00\x01\x00\x00\x01\x01\xac\x02\x04\x03tea\x00\x00\x00"},
		{impl.Cart{Vec: []int64{1, 0, 0, 1}, Ops: []impl.Op{saveOp(0, 1, 2), saveOp(3, 1, 1)}}, "\x01\x00\x00\x01\x00\x01\x02\x04\x03tea\x00\x00\x00\x03\x01\x01\x04\x03tea\x00\x00\x00"},
	} {
		if got := impl.CartBytes(c.cart); got != impl.Sealed(c.body) {
			t.Errorf("CartBytes(%v) = %q; want %q", c.cart, got, impl.Sealed(c.body))
		}
	}
	if c, ok := impl.ReadCart(impl.Sealed("\x00\x00\x00\x00")); !sameCart(c, impl.CartNew()) || !ok {
		t.Errorf("ReadCart of the cart without operations = %v, %t", c, ok)
	}
}

func TestReadCartRecoversCarts(t *testing.T) {
	carts := []impl.Cart{fullestCart(), impl.CartNew()}
	for _, p := range plans() {
		carts = append(carts, p.cart())
	}
	for _, c := range carts {
		s := impl.CartBytes(c)
		if s != impl.Sealed(bodyAnyway(c)) || s == "" {
			t.Errorf("CartBytes(%v) = %q; want %q", c, s, impl.Sealed(bodyAnyway(c)))
		}
		if got, ok := impl.ReadCart(s); !sameCart(got, c) || !ok {
			t.Errorf("ReadCart(CartBytes(%v)) = %v, %t", c, got, ok)
		}
	}
}

func someCarts() []impl.Cart {
	return []impl.Cart{impl.CartNew(), plan{[4]int64{0, 0, 1, 0}, unevenly}.cart(), plan{[4]int64{2, 0, 3, 1}, otherwise}.cart()}
}

func TestReadCartRejectsTruncated(t *testing.T) {
	for _, c := range append(someCarts(), fullestCart()) {
		s, body := impl.CartBytes(c), bodyAnyway(c)
		for i := range len(s) {
			wantNoCart(t, s[:i])
		}
		for i := range len(body) {
			wantNoCart(t, impl.Sealed(body[:i]))
			wantNoCart(t, body[:i])
		}
	}
}

func TestReadCartRejectsContinued(t *testing.T) {
	more := append([]string{impl.OpBytes(saveOp(0, 1, 1)), impl.OpBytes(saveOp(3, 2, 100000))}, followers...)
	for _, c := range someCarts() {
		s, body := impl.CartBytes(c), bodyAnyway(c)
		for _, x := range more {
			if x != "" {
				wantNoCart(t, s+x)
				wantNoCart(t, impl.Sealed(body+x))
			}
		}
		wantNoCart(t, s+s)
		wantNoCart(t, impl.Sealed(s))
		wantNoCart(t, impl.Sealed(body+strings.Repeat("\x00", 16000-len(body))))
	}
}

func TestReadCartRejectsWrongChecksums(t *testing.T) {
	for _, c := range someCarts() {
		s, body := impl.CartBytes(c), bodyAnyway(c)
		for bit := range len(s) * 8 {
			modified := []byte(s)
			modified[bit/8] ^= 1 << (bit % 8)
			wantNoCart(t, string(modified))
		}
		for _, sum := range []string{"", "\x00\x00\x00\x00", "\xff\xff\xff\xff", s[len(s)-3:]} {
			wantNoCart(t, body+sum)
		}
		swapped := []byte(s[len(body):])
		slices.Reverse(swapped)
		wantNoCart(t, body+string(swapped))
	}
}

func TestReadCartRejectsLongerThanNeeded(t *testing.T) {
	op := impl.OpBytes(saveOp(0, 1, 1))
	for _, body := range []string{
		"\x80\x00\x00\x00\x00", "\x00\x80\x00\x00\x00", "\x00\x00\x80\x00\x00", "\x00\x00\x00\x80\x00",
		"\x81\x00\x00\x00\x00" + op, "\x01\x00\x00\x80\x00" + op, "\x01\x00\x00\x00\x80\x00" + op[1:],
		"\x01\x00\x00\x00" + op[:1] + "\x81\x00" + op[2:], "\x01\x00\x00\x00" + op[:len(op)-1] + "\x80\x00",
	} {
		wantNoCart(t, impl.Sealed(body))
	}
}

func TestReadCartRejectsNotCarts(t *testing.T) {
	for _, c := range notCarts() {
		// The encodings of other numbers of elements could be read as those of four.
		if len(c.Vec) == impl.Devices {
			wantNoCart(t, impl.Sealed(bodyAnyway(c)))
		}
	}
	for _, s := range []string{"", "\x00\x00\x00\x00", "cart", impl.Sealed(""), impl.Sealed("\x00\x00\x00"), impl.Sealed("\x01\x00\x00\x00"), impl.Sealed("\x00\x00\x00\x00\x00")} {
		wantNoCart(t, s)
	}
}

// spareCart returns a cart and the lists of which its lists are the beginning.
func spareCart(p plan) (impl.Cart, impl.Cart) {
	behind := p.cart()
	behind.Vec = append(behind.Vec, 98, 99)
	behind.Ops = append(behind.Ops, saveOp(3, 39, 98), saveOp(3, 40, 99))
	return impl.Cart{Vec: behind.Vec[:impl.Devices], Ops: behind.Ops[:len(behind.Ops)-2]}, behind
}

// spoil modifies a result, and what lies behind it.
func spoil(c impl.Cart) {
	for _, vec := range [][]int64{c.Vec, c.Vec[len(c.Vec):cap(c.Vec)]} {
		for i := range vec {
			vec[i] = -7
		}
	}
	for _, ops := range [][]impl.Op{c.Ops, c.Ops[len(c.Ops):cap(c.Ops)]} {
		for i := range ops {
			ops[i] = impl.Op{Item: "spoiled"}
		}
	}
}

func TestCartArgumentsAreKept(t *testing.T) {
	for _, vecs := range [][2][4]int64{{{2, 0, 3, 1}, {1, 1, 4, 0}}, {{2, 1, 0, 0}, {0, 0, 0, 0}}, {{0, 0, 0, 0}, {0, 0, 0, 0}}, {{1, 2, 3, 4}, {1, 2, 3, 4}}} {
		a, behindA := spareCart(plan{vecs[0], unevenly})
		b, behindB := spareCart(plan{vecs[1], otherwise})
		wantA, wantB := copyOf(behindA), copyOf(behindB)
		for _, pair := range [][2]impl.Cart{{a, b}, {b, a}, {a, a}, {b, b}} {
			first := mustMerge(t, pair[0], pair[1])
			want := copyOf(first)
			spoil(first)
			if !sameCart(behindA, wantA) || !sameCart(behindB, wantB) {
				t.Fatalf("the arguments are now %v, %v", behindA, behindB)
			}
			if again := mustMerge(t, pair[0], pair[1]); !sameCart(again, want) {
				t.Errorf("equal arguments: %v, then %v", want, again)
			}
		}
		impl.CartOk(a)
		impl.Within(a, b)
		s := impl.CartBytes(a)
		first, _ := impl.ReadCart(s)
		spoil(first)
		if again, ok := impl.ReadCart(s); !sameCart(again, a) || !ok {
			t.Errorf("ReadCart(%q) = %v, %t after another result was modified", s, again, ok)
		}
		if !sameCart(behindA, wantA) || !sameCart(behindB, wantB) {
			t.Errorf("the arguments are now %v, %v", behindA, behindB)
		}
	}
}
