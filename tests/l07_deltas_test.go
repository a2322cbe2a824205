package tests

import (
	"math"
	"slices"
	"testing"
	"unsafe"

	"loop.example/g00660/impl"
)

// partOf is the delta between two plans by the history, without looking at the lists of their carts.
func (p plan) partOf(q plan) impl.Cart {
	part := impl.Cart{Vec: slices.Clone(p.vec[:])}
	for _, o := range p.cart().Ops {
		if !q.has(o.Dev, o.Seq) || q.undos(o.Dev, o.Seq) < o.Undos {
			part.Ops = append(part.Ops, o)
		}
	}
	return part
}

// chosen has those operations whose bits are set.
func chosen(ops []impl.Op, bits int64) []impl.Op {
	var list []impl.Op
	for i, o := range ops {
		if bits>>i&1 == 1 {
			list = append(list, o)
		}
	}
	return list
}

// uncoveredParts have an operation with a Seq greater than the element of the vector.
func uncoveredParts() []impl.Cart {
	var list []impl.Cart
	for dev := range int64(impl.Devices) {
		for _, seq := range []int64{1, 2, 39, 40} {
			vec := []int64{40, 40, 40, 40}
			vec[dev] = seq - 1
			ops := []impl.Op{saveOp(dev, seq, 5)}
			list = append(list, impl.Cart{Vec: vec, Ops: ops})
			if dev > 0 {
				list = append(list, impl.Cart{Vec: vec, Ops: append([]impl.Op{saveOp(0, 40, 5)}, ops...)})
			}
			if dev < 3 {
				list = append(list, impl.Cart{Vec: vec, Ops: append(ops, saveOp(3, 1, 5))})
			}
		}
	}
	return list
}

// unsortedParts have two operations with the same Dev and Seq, or operations in another order.
func unsortedParts() []impl.Cart {
	vec := []int64{40, 40, 40, 40}
	ops := []impl.Op{saveOp(0, 2, 9), saveOp(0, 7, 8), saveOp(1, 1, 7), saveOp(3, 5, 6), saveOp(3, 40, 5)}
	var list []impl.Cart
	for i, o := range ops {
		for _, undos := range []int64{0, 1, 50} {
			list = append(list, impl.Cart{Vec: vec, Ops: slices.Insert(slices.Clone(ops), i, undone(o, undos))})
			list = append(list, impl.Cart{Vec: vec, Ops: []impl.Op{o, undone(o, undos)}})
		}
		other := o
		other.Stamp++
		list = append(list, impl.Cart{Vec: vec, Ops: []impl.Op{o, other}})
		for j := range i {
			swapped := slices.Clone(ops)
			swapped[i], swapped[j] = swapped[j], swapped[i]
			list = append(list, impl.Cart{Vec: vec, Ops: swapped}, impl.Cart{Vec: vec, Ops: []impl.Op{o, ops[j]}})
		}
	}
	return append(list,
		impl.Cart{Vec: vec, Ops: []impl.Op{saveOp(0, 1, 1), saveOp(0, 3, 2), saveOp(0, 2, 3)}},
		impl.Cart{Vec: vec, Ops: []impl.Op{saveOp(1, 1, 1), saveOp(0, 2, 2)}},
		impl.Cart{Vec: vec, Ops: []impl.Op{saveOp(1, 9, 1), saveOp(2, 1, 2), saveOp(1, 10, 3)}})
}

func notParts() []impl.Cart {
	return slices.Concat([]impl.Cart{{}}, misshapenCarts(), brokenCarts(), uncoveredParts(), unsortedParts(), []impl.Cart{
		{Vec: []int64{0, 0, 0, 0}, Ops: []impl.Op{saveOp(0, 1, 1)}},
		{Vec: []int64{0, 0, 0, 0}, Ops: []impl.Op{{}}},
		{Vec: []int64{40, 40, 40, 40}, Ops: []impl.Op{{}}},
		{Vec: []int64{40, 40, 40, 40}, Ops: []impl.Op{saveOp(0, 41, 1)}},
		{Vec: []int64{40, 40, 40, 40}, Ops: []impl.Op{saveOp(4, 1, 1)}},
		{Vec: []int64{40, 40, 40, 40}, Ops: []impl.Op{saveOp(-1, 1, 1)}},
		{Vec: []int64{40, 40, 40, 40}, Ops: []impl.Op{saveOp(math.MaxInt64, 1, 1)}},
		{Vec: []int64{40, 40, 40, 40}, Ops: []impl.Op{saveOp(0, 0, 1)}},
	})
}

func mustTake(t *testing.T, c impl.Cart, part impl.Cart) impl.Cart {
	t.Helper()
	next, ok := impl.Taken(c, part)
	if !ok {
		t.Fatalf("Taken(%v, %v) = false", c, part)
	}
	return next
}

func wantTaken(t *testing.T, c impl.Cart, part impl.Cart, want impl.Cart) {
	t.Helper()
	if got, ok := impl.Taken(c, part); !sameCart(got, want) || !ok {
		t.Errorf("Taken(%v, %v) = %v, %t; want %v, true", c, part, got, ok, want)
	}
}

func wantNotTaken(t *testing.T, c impl.Cart, part impl.Cart) {
	t.Helper()
	if got, ok := impl.Taken(c, part); !sameCart(got, impl.Cart{}) || ok {
		t.Errorf("Taken(%v, %v) = %v, %t; want the zero value, false", c, part, got, ok)
	}
}

func mustDelta(t *testing.T, c impl.Cart, old impl.Cart) impl.Cart {
	t.Helper()
	part, ok := impl.DeltaOf(c, old)
	if !ok || !impl.PartOk(part) {
		t.Fatalf("DeltaOf(%v, %v) = %v, %t", c, old, part, ok)
	}
	return part
}

func wantDelta(t *testing.T, c impl.Cart, old impl.Cart, want impl.Cart) {
	t.Helper()
	if got, ok := impl.DeltaOf(c, old); !sameCart(got, want) || !ok {
		t.Errorf("DeltaOf(%v, %v) = %v, %t; want %v, true", c, old, got, ok, want)
	}
}

func wantNoDelta(t *testing.T, c impl.Cart, old impl.Cart) {
	t.Helper()
	if got, ok := impl.DeltaOf(c, old); !sameCart(got, impl.Cart{}) || ok {
		t.Errorf("DeltaOf(%v, %v) = %v, %t; want the zero value, false", c, old, got, ok)
	}
}

func wantOps(t *testing.T, what string, got []impl.Op, want []impl.Op) {
	t.Helper()
	if !slices.Equal(got, want) {
		t.Errorf("%s = %v; want %v", what, got, want)
	}
}

func TestPartOkOfParts(t *testing.T) {
	parts := []impl.Cart{
		impl.CartNew(), fullestCart(),
		{Vec: []int64{40, 0, 7, 40}},
		{Vec: []int64{40, 0, 7, 40}, Ops: []impl.Op{saveOp(0, 40, 1), saveOp(2, 7, 1), saveOp(3, 1, 1), saveOp(3, 40, 1)}},
		{Vec: []int64{9, 9, 9, 9}, Ops: []impl.Op{saveOp(0, 9, 5), saveOp(1, 1, 5), saveOp(2, 8, 5), saveOp(3, 2, 5)}},
		// Only carts need stamps that increase.
		{Vec: []int64{2, 0, 0, 0}, Ops: []impl.Op{saveOp(0, 1, 9), saveOp(0, 2, 9)}},
		{Vec: []int64{3, 0, 0, 0}, Ops: []impl.Op{saveOp(0, 1, 9), saveOp(0, 2, 8), saveOp(0, 3, 1)}},
	}
	for _, p := range plans() {
		parts = append(parts, p.cart())
	}
	for _, part := range parts {
		if !impl.PartOk(part) {
			t.Errorf("PartOk(%v) = false", part)
		}
	}
}

func TestPartOkOfAllGaps(t *testing.T) {
	c := plan{[4]int64{3, 1, 0, 4}, unevenly}.cart()
	for bits := range int64(1) << len(c.Ops) {
		for _, vec := range [][]int64{c.Vec, {3, 1, 1, 4}, {40, 40, 40, 40}} {
			if part := (impl.Cart{Vec: vec, Ops: chosen(c.Ops, bits)}); !impl.PartOk(part) {
				t.Errorf("PartOk(%v) = false", part)
			}
		}
	}
}

func TestPartOkRejectsNotParts(t *testing.T) {
	for _, part := range notParts() {
		if impl.PartOk(part) {
			t.Errorf("PartOk(%v) = true", part)
		}
	}
}

func TestDeltaExample(t *testing.T) {
	base := issue(t, impl.CartNew(), 0, addCmd("tea", 3))
	a := issue(t, issue(t, base, 0, setCmd("tea", 4)), 1, toggleCmd(0, 1))
	b := issue(t, base, 1, addCmd("egg", 5))
	want := impl.Cart{Vec: []int64{2, 0, 0, 0}, Ops: []impl.Op{undone(base.Ops[0], 1), a.Ops[1]}}
	wantDelta(t, a, b, want)
	wantTaken(t, b, want, mustMerge(t, a, b))
	wantDelta(t, b, a, impl.Cart{Vec: []int64{1, 1, 0, 0}, Ops: b.Ops[1:]})
}

func TestDeltaOfItselfAndOfNothing(t *testing.T) {
	carts := []impl.Cart{fullestCart()}
	for _, p := range plans() {
		carts = append(carts, p.cart())
	}
	for _, c := range carts {
		empty := impl.Cart{Vec: c.Vec}
		wantDelta(t, c, c, empty)
		wantTaken(t, c, empty, c)
		wantDelta(t, c, impl.CartNew(), c)
		wantTaken(t, impl.CartNew(), c, c)
		wantDelta(t, impl.CartNew(), c, impl.CartNew())
		wantTaken(t, c, impl.CartNew(), c)
	}
}

func TestDeltaComparesUndos(t *testing.T) {
	for i := range 6 {
		for _, n := range []int64{0, 1, 2, 49, 50} {
			for _, m := range []int64{0, 1, 2, 49, 50} {
				c := plan{[4]int64{2, 0, 3, 1}, never}.cart()
				old := copyOf(c)
				c.Ops[i].Undos, old.Ops[i].Undos = n, m
				want := impl.Cart{Vec: c.Vec}
				if n > m {
					want.Ops = c.Ops[i : i+1]
				}
				wantDelta(t, c, old, want)
				merged := copyOf(c)
				merged.Ops[i].Undos = max(n, m)
				wantTaken(t, old, impl.Cart{Vec: c.Vec, Ops: c.Ops[i : i+1]}, merged)
			}
		}
	}
}

func TestDeltaYieldsTheMerge(t *testing.T) {
	for _, p := range plans() {
		for _, q := range plans() {
			c, old := p.cart(), q.cart()
			wantDelta(t, c, old, p.partOf(q))
			merged := mustMerge(t, c, old)
			part := mustDelta(t, c, old)
			wantTaken(t, old, part, merged)
			wantTaken(t, merged, part, merged)
			wantTaken(t, c, part, c)
			if t.Failed() {
				return
			}
		}
	}
}

// apart performs commands of some devices, as they do while they do not hear of the others.
func (d *dice) apart(t *testing.T, c impl.Cart, devices ...int64) impl.Cart {
	t.Helper()
	for range d.roll(8) {
		dev := devices[d.roll(int64(len(devices)))]
		if next, code := impl.Issue(c, dev, d.cmd()); code == impl.CcOk {
			c = next
		}
	}
	return c
}

func TestDeltaBetweenDevices(t *testing.T) {
	d := dice{state: 70}
	for range 2000 {
		base := d.cart(t)
		a, b := d.apart(t, base, 0, 2), d.apart(t, base, 1, 3)
		merged := mustMerge(t, a, b)
		wantTaken(t, b, mustDelta(t, a, b), merged)
		wantTaken(t, a, mustDelta(t, b, a), merged)
		wantTaken(t, base, mustDelta(t, a, base), a)
		// What b has to tell is what it has beyond their base, whoever hears it.
		wantTaken(t, a, mustDelta(t, b, base), merged)
		if t.Failed() {
			return
		}
	}
}

func TestDeltaRejectsWhatCannotBeMerged(t *testing.T) {
	good := plan{[4]int64{2, 0, 3, 1}, never}.cart()
	for _, bad := range notCarts() {
		for _, c := range []impl.Cart{impl.CartNew(), good, fullestCart(), bad} {
			wantNoDelta(t, bad, c)
			wantNoDelta(t, c, bad)
		}
	}
	c := impl.Cart{Vec: []int64{2, 0, 0, 1}, Ops: []impl.Op{saveOp(0, 1, 10), saveOp(0, 2, 20), saveOp(3, 1, 10)}}
	for i, o := range c.Ops {
		for _, unlike := range unlikeOps(o) {
			for _, undos := range []int64{0, 1, 50} {
				other := copyOf(c)
				other.Ops[i] = undone(unlike, undos)
				wantNoDelta(t, c, other)
				wantNoDelta(t, other, c)
			}
		}
	}
}

// takenBy says in other words than the program what Taken returns for a cart and a part.
func takenBy(c impl.Cart, part impl.Cart) (impl.Cart, bool) {
	found := map[[2]int64]impl.Op{}
	for _, o := range c.Ops {
		found[[2]int64{o.Dev, o.Seq}] = o
	}
	for _, o := range part.Ops {
		name := [2]int64{o.Dev, o.Seq}
		if other, known := found[name]; known {
			if undone(o, 0) != undone(other, 0) {
				return impl.Cart{}, false
			}
			o.Undos = max(o.Undos, other.Undos)
		}
		found[name] = o
	}
	result := impl.Cart{Vec: impl.VecMax(c.Vec, part.Vec)}
	for dev, last := range result.Vec {
		stamp := int64(0)
		for seq := int64(1); seq <= last; seq++ {
			o, known := found[[2]int64{int64(dev), seq}]
			if !known || o.Stamp <= stamp {
				return impl.Cart{}, false
			}
			stamp = o.Stamp
			result.Ops = append(result.Ops, o)
		}
	}
	return result, true
}

// Every part of one history is offered to every cart of another one that differs in Undos.
func TestTakenOfAllParts(t *testing.T) {
	taken := 0
	all := plan{[4]int64{3, 2, 0, 2}, unevenly}.cart()
	for _, vec := range vectors(0, 1, 2) {
		if !impl.VecWithin(vec, all.Vec) {
			continue
		}
		c := plan{[4]int64(vec), otherwise}.cart()
		for bits := range int64(1) << len(all.Ops) {
			part := impl.Cart{Vec: all.Vec, Ops: chosen(all.Ops, bits)}
			want, ok := takenBy(c, part)
			if !ok {
				wantNotTaken(t, c, part)
				continue
			}
			taken++
			wantTaken(t, c, part, want)
		}
		if t.Failed() {
			return
		}
	}
	if taken < 100 {
		t.Errorf("only %d parts were taken", taken)
	}
}

func (d *dice) part(c impl.Cart) impl.Cart {
	part := copyOf(c)
	for dev := range part.Vec {
		part.Vec[dev] -= d.roll(part.Vec[dev] + 1)
	}
	part.Ops = slices.DeleteFunc(part.Ops, func(o impl.Op) bool { return o.Seq > part.Vec[o.Dev] || d.roll(6) == 0 })
	for i := range part.Ops {
		part.Ops[i].Undos = max(part.Ops[i].Undos, d.roll(9)-4)
		if d.roll(40) == 0 {
			part.Ops[i].Stamp += d.roll(3)
		}
	}
	return part
}

func TestTakenOfRandomParts(t *testing.T) {
	d := dice{state: 71}
	results := map[bool]int{}
	for range 8000 {
		whole := d.cart(t)
		c := copyOf(whole)
		for dev := range c.Vec {
			c.Vec[dev] -= d.roll(2 + c.Vec[dev]/3)
			c.Vec[dev] = max(c.Vec[dev], 0)
		}
		c.Ops = slices.DeleteFunc(c.Ops, func(o impl.Op) bool { return o.Seq > c.Vec[o.Dev] })
		part := d.part(whole)
		if !impl.PartOk(part) || !impl.CartOk(c) {
			t.Fatalf("the test's cart %v or part %v is not valid", c, part)
		}
		want, ok := takenBy(c, part)
		results[ok]++
		if ok {
			wantTaken(t, c, part, want)
		} else {
			wantNotTaken(t, c, part)
		}
		if t.Failed() {
			return
		}
	}
	if results[true] < 500 || results[false] < 500 {
		t.Errorf("taken or not: %v", results)
	}
}

func TestTakenWithGaps(t *testing.T) {
	ops := []impl.Op{saveOp(1, 1, 10), saveOp(1, 2, 20), saveOp(1, 3, 30), saveOp(1, 4, 40)}
	cart := func(n int64) impl.Cart { return impl.Cart{Vec: []int64{0, n, 0, 0}, Ops: ops[:n]} }
	wantTaken(t, cart(2), impl.Cart{Vec: cart(4).Vec, Ops: ops[2:]}, cart(4))
	wantTaken(t, cart(3), impl.Cart{Vec: cart(4).Vec, Ops: ops[3:]}, cart(4))
	wantTaken(t, cart(3), impl.Cart{Vec: cart(4).Vec, Ops: []impl.Op{ops[1], ops[3]}}, cart(4))
	wantTaken(t, cart(4), impl.Cart{Vec: cart(4).Vec, Ops: []impl.Op{ops[0], ops[3]}}, cart(4))
	wantTaken(t, cart(4), impl.Cart{Vec: cart(2).Vec, Ops: ops[1:2]}, cart(4))
	for _, part := range []impl.Cart{
		{Vec: cart(4).Vec, Ops: ops[3:]},
		{Vec: cart(4).Vec, Ops: ops[2:3]},
		{Vec: cart(4).Vec, Ops: []impl.Op{ops[0], ops[1], ops[3]}},
		{Vec: cart(4).Vec},
		{Vec: cart(3).Vec},
		{Vec: cart(3).Vec, Ops: ops[:2]},
		{Vec: []int64{1, 2, 0, 0}},
		{Vec: []int64{0, 2, 0, 40}},
		{Vec: []int64{2, 2, 0, 0}, Ops: []impl.Op{saveOp(0, 2, 9)}},
		{Vec: []int64{0, 2, 2, 0}, Ops: []impl.Op{saveOp(2, 1, 9)}},
	} {
		if !impl.PartOk(part) {
			t.Errorf("PartOk(%v) = false", part)
		}
		wantNotTaken(t, cart(2), part)
	}
	wantNotTaken(t, impl.CartNew(), impl.Cart{Vec: cart(2).Vec, Ops: ops[1:2]})
	wantTaken(t, impl.CartNew(), cart(2), cart(2))
}

func TestTakenRejectsUnlikeOps(t *testing.T) {
	addOp := impl.Op{Dev: 0, Seq: 2, Stamp: 20, Kind: impl.OkAdd, Item: "egg", Qty: 3, Level: 1}
	c := impl.Cart{Vec: []int64{3, 0, 2, 1}, Ops: []impl.Op{saveOp(0, 1, 10), addOp, saveOp(0, 3, 30), saveOp(2, 1, 10), saveOp(2, 2, 20), saveOp(3, 1, 7)}}
	for i, o := range c.Ops {
		for _, unlike := range unlikeOps(o) {
			for _, undos := range []int64{0, 1, 50} {
				whole := copyOf(c)
				whole.Ops[i] = undone(unlike, undos)
				wantNotTaken(t, c, whole)
				wantNotTaken(t, c, impl.Cart{Vec: c.Vec, Ops: whole.Ops[i : i+1]})
				wantNotTaken(t, c, impl.Cart{Vec: []int64{40, 40, 40, 40}, Ops: whole.Ops[i : i+1]})
			}
		}
		for _, undos := range []int64{0, 1, 50} {
			want := copyOf(c)
			want.Ops[i].Undos = undos
			wantTaken(t, c, impl.Cart{Vec: c.Vec, Ops: want.Ops[i : i+1]}, want)
		}
	}
}

// The stamps of the cart and those of the part increase, but not together.
func TestTakenRejectsStampsThatDoNotIncrease(t *testing.T) {
	for dev := range int64(impl.Devices) {
		vec := func(n int64) []int64 {
			list := []int64{0, 0, 0, 0}
			list[dev] = n
			return list
		}
		c := impl.Cart{Vec: vec(2), Ops: []impl.Op{saveOp(dev, 1, 5), saveOp(dev, 2, 9)}}
		for _, stamp := range []int64{1, 4, 5, 6, 8, 9} {
			wantNotTaken(t, c, impl.Cart{Vec: vec(3), Ops: []impl.Op{saveOp(dev, 3, stamp)}})
		}
		for _, stamp := range []int64{10, 11, 100000} {
			part := impl.Cart{Vec: vec(3), Ops: []impl.Op{saveOp(dev, 3, stamp)}}
			wantTaken(t, c, part, impl.Cart{Vec: vec(3), Ops: append(copyOf(c).Ops, part.Ops...)})
		}
		wantNotTaken(t, c, impl.Cart{Vec: vec(4), Ops: []impl.Op{saveOp(dev, 3, 20), saveOp(dev, 4, 20)}})
		wantNotTaken(t, c, impl.Cart{Vec: vec(4), Ops: []impl.Op{saveOp(dev, 3, 20), saveOp(dev, 4, 19)}})
		wantNotTaken(t, impl.CartNew(), impl.Cart{Vec: vec(2), Ops: []impl.Op{saveOp(dev, 1, 20), saveOp(dev, 2, 20)}})
	}
}

func TestTakenRejectsInvalid(t *testing.T) {
	good := plan{[4]int64{2, 0, 3, 1}, never}.cart()
	for _, bad := range notCarts() {
		for _, part := range []impl.Cart{impl.CartNew(), good, fullestCart(), bad} {
			wantNotTaken(t, bad, part)
		}
	}
	for _, bad := range notParts() {
		for _, c := range []impl.Cart{impl.CartNew(), good, fullestCart(), bad} {
			wantNotTaken(t, c, bad)
		}
	}
	// What would be the rest of a cart is not a cart by itself.
	rest := impl.Cart{Vec: good.Vec, Ops: good.Ops[1:]}
	wantNotTaken(t, rest, good)
	wantTaken(t, good, rest, good)
	// What is not a part is rejected even if the cart has all its operations already,
	for i, o := range good.Ops {
		for _, vec := range [][]int64{{0, 0, 0, 0}, {0, 40, 2, 0}, {1, 40, 0, 0}} {
			if o.Seq > vec[o.Dev] {
				wantNotTaken(t, good, impl.Cart{Vec: vec, Ops: good.Ops[i : i+1]})
				wantNotTaken(t, good, impl.Cart{Vec: vec, Ops: good.Ops})
			}
		}
	}
	// or if its operations, sorted, would make a cart.
	for i := range good.Ops {
		for j := range i {
			swapped := copyOf(good)
			swapped.Ops[i], swapped.Ops[j] = swapped.Ops[j], swapped.Ops[i]
			wantNotTaken(t, impl.CartNew(), swapped)
			wantNotTaken(t, good, swapped)
		}
		wantNotTaken(t, good, impl.Cart{Vec: good.Vec, Ops: slices.Insert(copyOf(good).Ops, i, good.Ops[i])})
	}
}

func TestToggledExamples(t *testing.T) {
	base := issue(t, impl.CartNew(), 0, addCmd("tea", 3), setCmd("tea", 4))
	base = issue(t, base, 3, saveCmd("tea"))
	next := issue(t, issue(t, base, 1, toggleCmd(0, 1), toggleCmd(3, 1)), 2, addCmd("egg", 1))
	wantOps(t, "Toggled after two were undone", impl.Toggled(base, next), []impl.Op{undone(base.Ops[0], 1), undone(base.Ops[2], 1)})
	wantOps(t, "Toggled of the carts in the other order", impl.Toggled(next, base), []impl.Op{base.Ops[0], base.Ops[2]})
	again := issue(t, next, 2, toggleCmd(0, 1), toggleCmd(0, 2), toggleCmd(0, 2))
	wantOps(t, "Toggled after one was done again", impl.Toggled(next, again), []impl.Op{undone(base.Ops[0], 2)})
	wantOps(t, "Toggled after undo and redo", impl.Toggled(base, again), []impl.Op{undone(base.Ops[2], 1)})
	wantOps(t, "Toggled of a cart and itself", impl.Toggled(next, next), nil)
	wantOps(t, "Toggled of a new cart and another", impl.Toggled(impl.CartNew(), next), nil)
	wantOps(t, "Toggled of a cart and a new one", impl.Toggled(next, impl.CartNew()), nil)
}

func TestToggledOfAllPlans(t *testing.T) {
	for _, p := range plans() {
		for _, q := range plans() {
			a, b := p.cart(), q.cart()
			var want []impl.Op
			for _, o := range b.Ops {
				if p.has(o.Dev, o.Seq) && (p.undos(o.Dev, o.Seq)+o.Undos)&1 == 1 {
					want = append(want, o)
				}
			}
			if got := impl.Toggled(a, b); !slices.Equal(got, want) {
				t.Fatalf("Toggled(%v, %v) = %v; want %v", a, b, got, want)
			}
		}
	}
}

// The chapter asks for the same Dev and Seq only: the carts need not be such as can be merged.
func TestToggledOfUnlikeOps(t *testing.T) {
	a := impl.Cart{Vec: []int64{1, 2, 0, 0}, Ops: []impl.Op{saveOp(0, 1, 10), saveOp(1, 1, 10), saveOp(1, 2, 20)}}
	for i, o := range a.Ops {
		for _, unlike := range unlikeOps(o) {
			b := copyOf(a)
			b.Ops[i] = unlike
			wantOps(t, "Toggled of unlike operations", impl.Toggled(a, b), nil)
			b.Ops[i].Undos = 3
			wantOps(t, "Toggled of unlike operations", impl.Toggled(a, b), b.Ops[i:i+1])
			wantOps(t, "Toggled of unlike operations", impl.Toggled(b, a), a.Ops[i:i+1])
		}
	}
}

func TestToggledRejectsNotCarts(t *testing.T) {
	good := plan{[4]int64{2, 2, 3, 1}, never}.cart()
	for _, bad := range notCarts() {
		for _, c := range []impl.Cart{impl.CartNew(), good, plan{[4]int64{2, 3, 3, 1}, func(dev, seq int64) int64 { return 1 }}.cart(), bad} {
			wantOps(t, "Toggled of a cart that is not valid", impl.Toggled(bad, c), nil)
			wantOps(t, "Toggled of a cart that is not valid", impl.Toggled(c, bad), nil)
		}
	}
}

// sharesTexts says whether an item of one list lies in the same memory as an item of the other one.
func sharesTexts(a []impl.Op, b []impl.Op) bool {
	for _, x := range a {
		for _, y := range b {
			if unsafe.StringData(x.Item) == unsafe.StringData(y.Item) {
				return true
			}
		}
	}
	return false
}

// spoilOps modifies a result, and what lies behind it.
func spoilOps(ops []impl.Op) {
	spoil(impl.Cart{Ops: ops})
}

func TestDeltaArgumentsAreKept(t *testing.T) {
	for _, vecs := range [][2][4]int64{{{2, 0, 3, 1}, {1, 1, 4, 0}}, {{2, 1, 0, 0}, {0, 0, 0, 0}}, {{0, 0, 0, 0}, {0, 0, 0, 0}}, {{1, 2, 3, 4}, {1, 2, 3, 4}}, {{40, 40, 40, 40}, {39, 40, 0, 40}}} {
		a, behindA := spareCart(plan{vecs[0], unevenly})
		b, behindB := spareCart(plan{vecs[1], otherwise})
		wantA, wantB := copyOf(behindA), copyOf(behindB)
		for _, pair := range [][2]impl.Cart{{a, b}, {b, a}, {a, a}, {b, b}} {
			keepDelta(t, pair[0], pair[1])
			keepTaken(t, pair[0], pair[1])
			keepToggled(t, pair[0], pair[1])
			if !sameCart(behindA, wantA) || !sameCart(behindB, wantB) {
				t.Fatalf("the arguments are now %v, %v; they were %v, %v", behindA, behindB, wantA, wantB)
			}
		}
		impl.PartOk(a)
		impl.Taken(a, impl.Cart{Vec: b.Vec, Ops: b.Ops[len(b.Ops)/2:]})
		if !sameCart(behindA, wantA) || !sameCart(behindB, wantB) {
			t.Fatalf("the arguments are now %v, %v; they were %v, %v", behindA, behindB, wantA, wantB)
		}
	}
}

func keepDelta(t *testing.T, c impl.Cart, old impl.Cart) {
	t.Helper()
	first := mustDelta(t, c, old)
	want := copyOf(first)
	if sharesTexts(first.Ops, c.Ops) || sharesTexts(first.Ops, old.Ops) {
		t.Error("an item of the delta shares memory with an argument")
	}
	spoil(first)
	wantDelta(t, c, old, want)
}

func keepTaken(t *testing.T, c impl.Cart, part impl.Cart) {
	t.Helper()
	first := mustTake(t, c, part)
	want := copyOf(first)
	if sharesTexts(first.Ops, c.Ops) || sharesTexts(first.Ops, part.Ops) {
		t.Error("an item of the resulting cart shares memory with an argument")
	}
	spoil(first)
	wantTaken(t, c, part, want)
}

func keepToggled(t *testing.T, a impl.Cart, b impl.Cart) {
	t.Helper()
	first := impl.Toggled(a, b)
	want := slices.Clone(first)
	if sharesTexts(first, a.Ops) || sharesTexts(first, b.Ops) {
		t.Error("an item of the toggled operations shares memory with an argument")
	}
	spoilOps(first)
	wantOps(t, "Toggled with equal arguments", impl.Toggled(a, b), want)
}
