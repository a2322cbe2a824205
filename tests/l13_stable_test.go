package tests

import (
	"slices"
	"testing"

	"loop.example/g00660/impl"
)

func acksOf(rows ...[]int64) impl.Acks {
	return impl.Acks{Rows: rows}
}

func copyOfAcks(a impl.Acks) impl.Acks {
	var rows [][]int64
	for _, row := range a.Rows {
		rows = append(rows, slices.Clone(row))
	}
	return impl.Acks{Rows: rows}
}

func sameAcks(a impl.Acks, b impl.Acks) bool {
	return slices.EqualFunc(a.Rows, b.Rows, slices.Equal[[]int64])
}

func exampleAcks() impl.Acks {
	return acksOf([]int64{3, 1, 0, 2}, []int64{2, 4, 0, 2}, []int64{9, 9, 9, 9}, []int64{1, 1, 1, 1})
}

func (d *dice) vector(limit int64) []int64 {
	return []int64{d.roll(limit + 1), d.roll(limit + 1), d.roll(limit + 1), d.roll(limit + 1)}
}

func (d *dice) acks(limit int64) impl.Acks {
	return acksOf(d.vector(limit), d.vector(limit), d.vector(limit), d.vector(limit))
}

func someAcks() []impl.Acks {
	zeros, most := []int64{0, 0, 0, 0}, []int64{40, 40, 40, 40}
	list := []impl.Acks{
		exampleAcks(), acksOf(zeros, zeros, zeros, zeros), acksOf(most, most, most, most),
		acksOf(zeros, most, most, most), acksOf(most, most, most, zeros), acksOf(zeros, zeros, most, zeros),
	}
	d := dice{state: 130}
	for range 60 {
		list = append(list, d.acks(40), d.acks(3))
	}
	return list
}

// notAcks have another number of rows than four, or a row that is no vector.
func notAcks() []impl.Acks {
	row := []int64{1, 2, 3, 4}
	list := []impl.Acks{{}, {Rows: [][]int64{}}, acksOf(row), acksOf(row, row), acksOf(row, row, row), acksOf(row, row, row, row, row), acksOf(slices.Repeat([][]int64{row}, 400)...)}
	for _, bad := range notVectors() {
		for dev := range impl.Devices {
			a := acksOf(row, row, row, row)
			a.Rows[dev] = bad
			list = append(list, a)
		}
		list = append(list, acksOf(bad, bad, bad, bad), acksOf(row, row, row, row, bad), acksOf(row, row, row, bad, row), acksOf(row, row, bad))
	}
	return list
}

func wantHeard(t *testing.T, a impl.Acks, dev int64, v []int64, want impl.Acks) {
	t.Helper()
	if got, ok := impl.Heard(a, dev, v); !sameAcks(got, want) || !ok {
		t.Errorf("Heard(%v, %d, %v) = %v, %t; want %v, true", a, dev, v, got, ok, want)
	}
}

func wantNotHeard(t *testing.T, a impl.Acks, dev int64, v []int64) {
	t.Helper()
	if got, ok := impl.Heard(a, dev, v); len(got.Rows) != 0 || ok {
		t.Errorf("Heard(%v, %d, %v) = %v, %t; want the zero value, false", a, dev, v, got, ok)
	}
}

func wantStable(t *testing.T, a impl.Acks, want []int64) {
	t.Helper()
	if got := impl.Stable(a); !slices.Equal(got, want) {
		t.Errorf("Stable(%v) = %v; want %v", a, got, want)
	}
}

func wantCutAt(t *testing.T, c impl.Cart, v []int64, want impl.Cart) {
	t.Helper()
	got, ok := impl.Cut(c, v)
	if !sameCart(got, want) || !ok {
		t.Errorf("Cut(%v, %v) = %v, %t; want %v, true", c, v, got, ok, want)
	}
	if !impl.CartOk(got) || !impl.Within(got, c) {
		t.Errorf("Cut(%v, %v) = %v, which is not valid or not within the cart", c, v, got)
	}
}

func wantNotCut(t *testing.T, c impl.Cart, v []int64) {
	t.Helper()
	if got, ok := impl.Cut(c, v); !sameCart(got, impl.Cart{}) || ok {
		t.Errorf("Cut(%v, %v) = %v, %t; want the zero value, false", c, v, got, ok)
	}
}

func TestAcksNew(t *testing.T) {
	zeros := acksOf([]int64{0, 0, 0, 0}, []int64{0, 0, 0, 0}, []int64{0, 0, 0, 0}, []int64{0, 0, 0, 0})
	a := impl.AcksNew()
	if !sameAcks(a, zeros) || !impl.AcksOk(a) {
		t.Errorf("AcksNew() = %v", a)
	}
	wantStable(t, a, []int64{0, 0, 0, 0})
	for dev, row := range a.Rows {
		row[dev] = 7
	}
	if a.Rows[0][1] != 0 || a.Rows[3][0] != 0 || a.Rows[1][1] != 7 {
		t.Errorf("the rows %v share memory", a)
	}
	if again := impl.AcksNew(); !sameAcks(again, zeros) {
		t.Errorf("AcksNew() = %v after the result of another call was modified", again)
	}
}

func TestAcksOk(t *testing.T) {
	for _, a := range someAcks() {
		if !impl.AcksOk(a) {
			t.Errorf("AcksOk(%v) = false", a)
		}
	}
	for _, v := range vectors(0, 1, 39, 40) {
		row := []int64{1, 2, 3, 4}
		for dev := range impl.Devices {
			a := acksOf(row, row, row, row)
			a.Rows[dev] = v
			if !impl.AcksOk(a) {
				t.Errorf("AcksOk(%v) = false", a)
			}
		}
	}
}

func TestAcksThatAreNotValid(t *testing.T) {
	for _, a := range notAcks() {
		if impl.AcksOk(a) {
			t.Errorf("AcksOk(%v) = true", a)
		}
		wantStable(t, a, nil)
		for _, dev := range []int64{0, 1, 2, 3, 4, -1} {
			wantNotHeard(t, a, dev, []int64{1, 2, 3, 4})
			wantNotHeard(t, a, dev, []int64{40, 40, 40, 40})
			wantNotHeard(t, a, dev, nil)
		}
	}
}

func TestHeardExamples(t *testing.T) {
	a := impl.AcksNew()
	for dev, row := range exampleAcks().Rows {
		next, ok := impl.Heard(a, int64(dev), row)
		if !ok {
			t.Fatalf("Heard(%v, %d, %v) = false", a, dev, row)
		}
		a = next
	}
	if !sameAcks(a, exampleAcks()) {
		t.Errorf("the rows are %v; want %v", a, exampleAcks())
	}
	wantStable(t, a, []int64{1, 1, 0, 1})
	for dev, v := range map[int64][][2][]int64{ // what is heard, and the row after that
		0: {{{4, 2, 1, 3}, {4, 2, 1, 3}}, {{2, 0, 0, 1}, {3, 1, 0, 2}}, {{2, 5, 0, 2}, {3, 5, 0, 2}}, {{3, 1, 0, 2}, {3, 1, 0, 2}}},
		1: {{{40, 40, 40, 40}, {40, 40, 40, 40}}, {{0, 0, 0, 0}, {2, 4, 0, 2}}, {{3, 3, 3, 1}, {3, 4, 3, 2}}},
		2: {{{10, 10, 10, 10}, {10, 10, 10, 10}}, {{8, 8, 8, 8}, {9, 9, 9, 9}}, {{0, 0, 0, 40}, {9, 9, 9, 40}}},
		3: {{{1, 1, 1, 2}, {1, 1, 1, 2}}, {{1, 1, 0, 1}, {1, 1, 1, 1}}, {{5, 0, 0, 5}, {5, 1, 1, 5}}},
	} {
		for _, pair := range v {
			want := exampleAcks()
			want.Rows[dev] = pair[1]
			wantHeard(t, exampleAcks(), dev, pair[0], want)
		}
	}
}

func TestHeardChangesOneRow(t *testing.T) {
	d := dice{state: 131}
	for _, a := range someAcks() {
		for dev := range int64(impl.Devices) {
			for _, v := range [][]int64{d.vector(40), d.vector(3), {0, 0, 0, 0}, {40, 40, 40, 40}, slices.Clone(a.Rows[dev]), slices.Clone(a.Rows[3-dev])} {
				want := copyOfAcks(a)
				for i, n := range v {
					if n > want.Rows[dev][i] {
						want.Rows[dev][i] = n
					}
				}
				wantHeard(t, a, dev, v, want)
				wantHeard(t, want, dev, v, want)
			}
		}
	}
}

func TestHeardRejectsInvalid(t *testing.T) {
	for _, a := range []impl.Acks{exampleAcks(), impl.AcksNew()} {
		for _, dev := range notDevices {
			wantNotHeard(t, a, dev, []int64{1, 2, 3, 4})
			wantNotHeard(t, a, dev, nil)
		}
		for _, v := range notVectors() {
			for dev := range int64(impl.Devices) {
				wantNotHeard(t, a, dev, v)
			}
		}
	}
}

// Each assignment of the least elements to the rows is tried.
func TestStableOfLeastElementsInEachRow(t *testing.T) {
	for _, least := range vectors(0, 1, 2, 3) {
		for _, values := range [][2]int64{{0, 1}, {0, 40}, {39, 40}, {7, 30}} {
			rows := [4][4]int64{}
			for dev := range rows {
				for i := range rows[dev] {
					rows[dev][i] = values[1]
				}
			}
			for i, dev := range least {
				rows[dev][i] = values[0]
			}
			a := acksOf(rows[0][:], rows[1][:], rows[2][:], rows[3][:])
			wantStable(t, a, slices.Repeat(values[:1], 4))
			// Without the least element at one index, the greater value is the least.
			for i, dev := range least {
				rows[dev][i] = values[1]
				want := slices.Repeat(values[:1], 4)
				want[i] = values[1]
				wantStable(t, a, want)
				rows[dev][i] = values[0]
			}
		}
	}
}

func TestStableIsWithinEachRow(t *testing.T) {
	for _, a := range someAcks() {
		want := []int64{40, 40, 40, 40}
		for _, row := range a.Rows {
			for i, n := range row {
				if n < want[i] {
					want[i] = n
				}
			}
		}
		wantStable(t, a, want)
		for _, row := range a.Rows {
			if !impl.VecWithin(impl.Stable(a), row) {
				t.Errorf("Stable(%v) = %v is not within %v", a, impl.Stable(a), row)
			}
		}
	}
}

func TestStableNeverDecreases(t *testing.T) {
	d := dice{state: 132}
	for range 100 {
		a := impl.AcksNew()
		for limit := range int64(impl.MaxSeq + 1) {
			dev, v := d.roll(4), d.vector(limit)
			next, ok := impl.Heard(a, dev, v)
			if !ok || !impl.AcksOk(next) {
				t.Fatalf("Heard(%v, %d, %v) = %v, %t", a, dev, v, next, ok)
			}
			before, after := impl.Stable(a), impl.Stable(next)
			if !impl.VecWithin(before, after) || !impl.VecWithin(v, next.Rows[dev]) {
				t.Errorf("after Heard(%v, %d, %v), %v is stable; before, it was %v", a, dev, v, after, before)
			}
			for other, row := range next.Rows {
				if !impl.VecWithin(after, row) || !impl.VecWithin(a.Rows[other], row) {
					t.Errorf("after Heard(%v, %d, %v), row %d is %v", a, dev, v, other, row)
				}
			}
			a = next
		}
		for dev := range int64(impl.Devices) {
			a, _ = impl.Heard(a, dev, []int64{40, 39, 38, 37})
		}
		if !impl.VecWithin([]int64{40, 39, 38, 37}, impl.Stable(a)) {
			t.Errorf("Stable(%v) = %v, after all have heard more", a, impl.Stable(a))
		}
	}
}

func TestCutExamples(t *testing.T) {
	c := issue(t, impl.CartNew(), 0, addCmd("tea", 3))
	c = issue(t, c, 1, setCmd("tea", 4))
	c = issue(t, c, 0, setCmd("tea", 5), undoCmd)
	wantCutAt(t, c, []int64{1, 9, 3, 0}, impl.Cart{Vec: []int64{1, 1, 0, 0}, Ops: []impl.Op{c.Ops[0], c.Ops[2]}})
	wantCutAt(t, c, []int64{2, 0, 40, 40}, impl.Cart{Vec: []int64{2, 0, 0, 0}, Ops: c.Ops[:2]})
	wantCutAt(t, c, []int64{3, 1, 1, 1}, c)
	wantCutAt(t, c, []int64{2, 1, 0, 0}, c)
	wantCutAt(t, c, []int64{40, 40, 40, 40}, c)
	wantCutAt(t, c, []int64{0, 1, 0, 0}, impl.Cart{Vec: []int64{0, 1, 0, 0}, Ops: c.Ops[2:]})
	wantCutAt(t, c, []int64{0, 0, 40, 40}, impl.CartNew())
	wantCutAt(t, impl.CartNew(), []int64{40, 0, 7, 1}, impl.CartNew())
}

func TestCutOfHistories(t *testing.T) {
	d := dice{state: 133}
	for _, p := range plans() {
		c := p.cart()
		list := [][]int64{{0, 0, 0, 0}, {40, 40, 40, 40}, slices.Clone(c.Vec), {1, 2, 3, 4}, d.vector(40), d.vector(5)}
		for dev := range c.Vec {
			for _, n := range []int64{0, c.Vec[dev] - 1, c.Vec[dev] + 1, 40} {
				v := slices.Clone(c.Vec)
				v[dev] = min(max(n, 0), 40)
				list = append(list, v)
			}
		}
		for _, v := range list {
			want := plan{undos: p.undos}
			for dev := range want.vec {
				want.vec[dev] = min(v[dev], p.vec[dev])
			}
			wantCutAt(t, c, v, want.cart())
		}
	}
	wantCutAt(t, fullestCart(), []int64{40, 40, 40, 40}, fullestCart())
}

func TestCutOfRandomCarts(t *testing.T) {
	d := dice{state: 134}
	for range 400 {
		c := d.cart(t)
		v, w := d.vector(8), d.vector(8)
		want := impl.Cart{Vec: impl.VecMin(c.Vec, v)}
		for _, o := range c.Ops {
			if o.Seq <= v[o.Dev] {
				want.Ops = append(want.Ops, o)
			}
		}
		wantCutAt(t, c, v, want)
		wantCutAt(t, want, v, want)
		// Cutting twice is cutting at the lesser elements.
		once, _ := impl.Cut(c, impl.VecMin(v, w))
		wantCutAt(t, want, w, once)
	}
}

// What is stable is the same in all devices' carts, apart from Undos.
func TestCutAtWhatIsStable(t *testing.T) {
	for _, n := range nets(t) {
		a := impl.AcksNew()
		for dev, c := range n.Carts {
			a, _ = impl.Heard(a, int64(dev), c.Vec)
		}
		stable := impl.Stable(a)
		first, _ := impl.Cut(n.Carts[0], stable)
		for _, c := range n.Carts {
			part, ok := impl.Cut(c, stable)
			if !ok || !slices.Equal(part.Vec, stable) || len(part.Ops) != len(first.Ops) {
				t.Errorf("Cut(%v, %v) = %v, %t", c, stable, part, ok)
			}
			mustMerge(t, part, first)
		}
	}
}

func TestCutRejectsInvalid(t *testing.T) {
	for _, c := range notCarts() {
		for _, v := range [][]int64{{0, 0, 0, 0}, {1, 2, 3, 4}, {40, 40, 40, 40}, nil, {41, 0, 0, 0}} {
			wantNotCut(t, c, v)
		}
	}
	for _, c := range []impl.Cart{impl.CartNew(), plan{[4]int64{1, 2, 3, 4}, never}.cart(), fullestCart()} {
		for _, v := range notVectors() {
			wantNotCut(t, c, v)
		}
	}
}

// slackAcks has rows with spare capacity, behind which lies something else.
func slackAcks(a impl.Acks) impl.Acks {
	rows := slackList(a.Rows, []int64{96, 97, 96, 97})
	for dev, row := range rows {
		rows[dev] = slackList(row, 98)
	}
	return impl.Acks{Rows: rows}
}

// acksWithSpare is a copy in which the lists have what lies behind them too.
func acksWithSpare(a impl.Acks) impl.Acks {
	all := impl.Acks{Rows: slices.Clone(a.Rows[:cap(a.Rows)])}
	for dev, row := range all.Rows {
		all.Rows[dev] = row[:cap(row)]
	}
	return copyOfAcks(all)
}

func listsOfAcks(a impl.Acks) []place {
	places := []place{placeOfList(a.Rows)}
	for _, row := range a.Rows {
		places = append(places, placeOfList(row))
	}
	return places
}

// wantNewAcks checks that no lists of the result share memory, and that it shares none with the arguments.
func wantNewAcks(t *testing.T, what string, result impl.Acks, arguments []place) {
	t.Helper()
	lists := listsOfAcks(result)
	for i := range lists {
		wantApart(t, what+": two lists of the result", lists[:i], lists[i:i+1])
	}
	wantApart(t, what+": the result and the arguments", lists, arguments)
}

func TestAcksArgumentsAreKept(t *testing.T) {
	wantNewAcks(t, "AcksNew", impl.AcksNew(), nil)
	for _, given := range someAcks() {
		a, v := slackAcks(given), slackList([]int64{5, 0, 40, 3}, 98)
		wantA, wantV := acksWithSpare(a), slices.Clone(v[:cap(v)])
		for dev := range int64(impl.Devices) {
			for _, heard := range [][]int64{v, a.Rows[dev], a.Rows[3-dev]} {
				first, _ := impl.Heard(a, dev, heard)
				want := copyOfAcks(first)
				wantNewAcks(t, "Heard", first, append(listsOfAcks(a), placeOfList(heard)))
				for _, row := range first.Rows {
					row[dev] = -7
				}
				wantHeard(t, a, dev, heard, want)
			}
		}
		stable := impl.Stable(a)
		want := slices.Clone(stable)
		wantApart(t, "Stable", []place{placeOfList(stable)}, listsOfAcks(a))
		stable[1] = -7
		wantStable(t, a, want)
		if !impl.AcksOk(a) || !sameAcks(acksWithSpare(a), wantA) || !slices.Equal(v[:cap(v)], wantV) {
			t.Fatalf("the arguments are now %v, %v; they were %v, %v", acksWithSpare(a), v[:cap(v)], wantA, wantV)
		}
	}
}

// The rows of an argument may be one list; those of a result are not.
func TestHeardWithRowsThatShareMemory(t *testing.T) {
	row := []int64{1, 5, 0, 2}
	a := acksOf(row, row, row, row)
	wantStable(t, a, []int64{1, 5, 0, 2})
	wantHeard(t, a, 2, []int64{3, 4, 0, 2}, acksOf([]int64{1, 5, 0, 2}, []int64{1, 5, 0, 2}, []int64{3, 5, 0, 2}, []int64{1, 5, 0, 2}))
	next, _ := impl.Heard(a, 2, row)
	wantNewAcks(t, "Heard", next, []place{placeOfList(row)})
	if !slices.Equal(row, []int64{1, 5, 0, 2}) {
		t.Errorf("the row is now %v", row)
	}
}

func TestCutArgumentsAreKept(t *testing.T) {
	for _, vec := range [][4]int64{{0, 0, 0, 0}, {2, 0, 3, 1}, {0, 7, 2, 2}, {40, 40, 40, 40}} {
		given, _ := spareCart(plan{vec, unevenly})
		c := slackCart(given)
		before := copyOf(allOf(c))
		for _, elements := range [][]int64{{0, 0, 0, 0}, {1, 2, 3, 4}, vec[:], {40, 40, 40, 40}, {41, 0, 0, 0}} {
			v := slackList(elements, 98)
			wantV := slices.Clone(v[:cap(v)])
			first, ok := impl.Cut(c, v)
			want := copyOf(first)
			wantApart(t, "Cut: the lists of the result and of the arguments", []place{placeOfList(first.Vec), placeOfList(first.Ops)}, []place{placeOfList(c.Vec), placeOfList(c.Ops), placeOfList(v)})
			wantApart(t, "Cut: the items of the result and of the cart", textsOfCart(first), textsOfCart(c))
			spoil(first)
			if again, okAgain := impl.Cut(c, v); !sameCart(again, want) || okAgain != ok {
				t.Errorf("Cut with equal arguments: %v, %t, then %v, %t", want, ok, again, okAgain)
			}
			if !slices.Equal(v[:cap(v)], wantV) {
				t.Errorf("the vector is now %v; it was %v", v[:cap(v)], wantV)
			}
		}
		if !sameCart(allOf(c), before) {
			t.Fatalf("the cart is now %v; it was %v", allOf(c), before)
		}
	}
}
