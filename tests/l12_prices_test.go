package tests

import (
	"fmt"
	"math"
	"slices"
	"strings"
	"testing"

	"loop.example/g00660/impl"
)

// numberedItems are strictly increasing.
func numberedItems(count int) []string {
	var items []string
	for i := range count {
		items = append(items, fmt.Sprintf("i%03d", i))
	}
	return items
}

func pricesOf(items []string, cents int64) []impl.Price {
	var list []impl.Price
	for _, item := range items {
		list = append(list, impl.Price{Item: item, Cents: cents})
	}
	return list
}

func offersOf(items []string, buy int64, free int64) []impl.Offer {
	var list []impl.Offer
	for _, item := range items {
		list = append(list, impl.Offer{Item: item, Buy: buy, Free: free})
	}
	return list
}

func linesOf(items []string, qty int64, saved bool) []impl.Line {
	var list []impl.Line
	for _, item := range items {
		list = append(list, impl.Line{Item: item, Qty: qty, Saved: saved})
	}
	return list
}

func rowOf(item string, qty int64, cents int64) impl.Row {
	return impl.Row{Item: item, Qty: qty, Cents: cents}
}

var notItems = []string{"", "toolong12", "Tea", "te a", "tea ", "t\xc3\xa9", "a\x00", "a-b", "\xff", strings.Repeat("a", 5000)}

var notQtys = []int64{0, -1, 1000, 1001, math.MinInt64, math.MaxInt64, 1 << 32, 1<<32 + 1}

var notCents = []int64{0, -1, 1000001, 1000002, math.MinInt64, math.MaxInt64, 1 << 32, 1<<32 + 1}

var notPieces = []int64{0, -1, 100, 101, math.MinInt64, math.MaxInt64, 1 << 32, 1<<32 + 1}

// orders are lists of items, and whether they are strictly increasing.
func orders() map[string]bool {
	return map[string]bool{
		"": true, "tea": true, "a aa b": true, "0 9 a z": true, "1 10 2": true, "aa aaa aab": true, "z zz zzzzzzzz": true, "9z a0": true,
		"a a": false, "b a": false, "a b b": false, "a a b": false, "b a c": false, "a c b": false, "c b a": false, "a b a": false,
		"aa a": false, "a 9": false, "10 1 2": false, "2 10": false, "a b c d d": false, "a b c e d": false, "tea egg": false,
	}
}

// notPrices are lists that are not valid for one reason. Most have a price for "tea".
func notPrices() [][]impl.Price {
	var lists [][]impl.Price
	good := []impl.Price{{Item: "egg", Cents: 1}, {Item: "oat", Cents: 300}, {Item: "tea", Cents: 1000000}}
	for at := range good {
		change := func(f func(p *impl.Price)) {
			list := slices.Clone(good)
			f(&list[at])
			lists = append(lists, list)
		}
		for _, cents := range notCents {
			change(func(p *impl.Price) { p.Cents = cents })
		}
		for _, item := range []string{"Egg", "", "toolong12", "te a", "oat"} {
			if item != good[at].Item {
				change(func(p *impl.Price) { p.Item = item })
			}
		}
	}
	for _, item := range notItems {
		lists = append(lists, []impl.Price{{Item: item, Cents: 5}})
	}
	for order, ok := range orders() {
		if !ok {
			lists = append(lists, pricesOf(strings.Fields(order), 7))
		}
	}
	for _, count := range []int{50, 51, 99, 1000} {
		lists = append(lists, append(pricesOf(numberedItems(count), 7), impl.Price{Item: "tea", Cents: 8}))
	}
	return append(lists, []impl.Price{{}}, []impl.Price{{Item: "egg"}})
}

// notOffers are offers that are not valid for one reason.
func notOffers() []impl.Offer {
	var list []impl.Offer
	for _, n := range notPieces {
		list = append(list, impl.Offer{Item: "tea", Buy: n, Free: 1}, impl.Offer{Item: "tea", Buy: 1, Free: n}, impl.Offer{Item: "tea", Buy: n, Free: n}, impl.Offer{Item: "tea", Buy: n, Free: 99}, impl.Offer{Item: "tea", Buy: 99, Free: n})
	}
	for _, item := range notItems {
		list = append(list, impl.Offer{Item: item, Buy: 2, Free: 1})
	}
	return append(list, impl.Offer{})
}

// notOfferLists are lists that are not valid for one reason.
func notOfferLists() [][]impl.Offer {
	var lists [][]impl.Offer
	first, middle, last := impl.Offer{Item: "0", Buy: 1, Free: 99}, impl.Offer{Item: "egg", Buy: 99, Free: 1}, impl.Offer{Item: "zzzzzzzz", Buy: 2, Free: 1}
	for _, bad := range notOffers() {
		lists = append(lists, []impl.Offer{bad}, []impl.Offer{bad, last}, []impl.Offer{first, middle, bad}, []impl.Offer{first, bad, last})
	}
	for order, ok := range orders() {
		if !ok {
			lists = append(lists, offersOf(strings.Fields(order), 2, 1))
		}
	}
	return append(lists, offersOf(numberedItems(51), 2, 1), offersOf(numberedItems(52), 2, 1), offersOf(numberedItems(1000), 2, 1), []impl.Offer{middle, middle})
}

// paidPieces counts the pieces one by one, unlike the program.
func paidPieces(qty int64, buy int64, free int64) int64 {
	paid := int64(0)
	inGroup := int64(0)
	for range qty {
		if inGroup < buy {
			paid++
		}
		inGroup++
		if inGroup == buy+free {
			inGroup = 0
		}
	}
	return paid
}

// expectedBill says for valid lists what the rows are; it returns false if a price is missing.
func expectedBill(l []impl.Line, p []impl.Price, o []impl.Offer) ([]impl.Row, int64, bool) {
	var rows []impl.Row
	sum := int64(0)
	for _, line := range l {
		if line.Saved {
			continue
		}
		row := impl.Row{Item: line.Item, Qty: line.Qty}
		paid := line.Qty
		for _, offer := range o {
			if offer.Item == line.Item {
				paid = paidPieces(line.Qty, offer.Buy, offer.Free)
			}
		}
		for _, price := range p {
			if price.Item == line.Item {
				row.Cents = price.Cents * paid
			}
		}
		if row.Cents == 0 {
			return nil, 0, false
		}
		rows = append(rows, row)
		sum += row.Cents
	}
	return rows, sum, true
}

func wantBill(t *testing.T, l []impl.Line, p []impl.Price, o []impl.Offer, want []impl.Row, sum int64) {
	t.Helper()
	rows, got, ok := impl.Bill(l, p, o)
	if !slices.Equal(rows, want) || got != sum || !ok {
		t.Errorf("Bill(%v, %v, %v) = %v, %d, %t; want %v, %d, true", l, p, o, rows, got, ok, want, sum)
	}
}

func wantNoBill(t *testing.T, l []impl.Line, p []impl.Price, o []impl.Offer) {
	t.Helper()
	if rows, sum, ok := impl.Bill(l, p, o); len(rows) != 0 || sum != 0 || ok {
		t.Errorf("Bill(%v, %v, %v) = %v, %d, %t; want nothing, 0, false", l, p, o, rows, sum, ok)
	}
}

func wantPaid(t *testing.T, qty int64, o impl.Offer, want int64) {
	t.Helper()
	if got := impl.Paid(qty, o); got != want {
		t.Errorf("Paid(%d, %v) = %d; want %d", qty, o, got, want)
	}
}

// paidIf is what Paid returns for an offer that is valid or not.
func paidIf(valid bool, paid int64) int64 {
	if !valid {
		return -1
	}
	return paid
}

func wantPrice(t *testing.T, l []impl.Price, item string, want int64, found bool) {
	t.Helper()
	if got, ok := impl.PriceOf(l, item); got != want || ok != found {
		t.Errorf("PriceOf(%v, %q) = %d, %t; want %d, %t", l, item, got, ok, want, found)
	}
}

func TestMaxCents(t *testing.T) {
	if impl.MaxCents != 1000000 {
		t.Errorf("MaxCents = %d", impl.MaxCents)
	}
}

func TestListsOfPricesAndOffersHaveAtMost50(t *testing.T) {
	for _, count := range []int{0, 1, 2, 49, 50, 51, 52, 100, 1000} {
		items := numberedItems(count)
		if got, want := impl.PricesOk(pricesOf(items, 1)), count <= 50; got != want {
			t.Errorf("PricesOk of %d prices = %t", count, got)
		}
		if got, want := impl.OffersOk(offersOf(items, 1, 1)), count <= 50; got != want {
			t.Errorf("OffersOk of %d offers = %t", count, got)
		}
	}
	if !impl.PricesOk([]impl.Price{}) || !impl.OffersOk([]impl.Offer{}) {
		t.Error("an empty list is not valid")
	}
}

func TestListsIncreaseByItem(t *testing.T) {
	for order, want := range orders() {
		items := strings.Fields(order)
		if got := impl.PricesOk(pricesOf(items, 5)); got != want {
			t.Errorf("PricesOk of %q = %t", order, got)
		}
		if got := impl.OffersOk(offersOf(items, 2, 1)); got != want {
			t.Errorf("OffersOk of %q = %t", order, got)
		}
		prices := pricesOf(slices.Compact(slices.Sorted(slices.Values(items))), 5)
		for _, saved := range []bool{false, true} {
			lines := linesOf(items, 2, saved)
			if _, _, ok := impl.Bill(lines, prices, nil); ok != want {
				t.Errorf("Bill of %v = %t", lines, ok)
			}
		}
	}
	for i := range 49 {
		items := numberedItems(50)
		items[i], items[i+1] = items[i+1], items[i]
		if impl.PricesOk(pricesOf(items, 5)) || impl.OffersOk(offersOf(items, 2, 1)) {
			t.Errorf("%q are valid", items)
		}
		items[i] = items[i+1]
		if impl.PricesOk(pricesOf(items, 5)) || impl.OffersOk(offersOf(items, 2, 1)) {
			t.Errorf("%q are valid", items)
		}
	}
}

// wantItem checks one item as the only one of each kind of list.
func wantItem(t *testing.T, item string, want bool) {
	t.Helper()
	one := []string{item}
	if impl.PricesOk(pricesOf(one, 5)) != want || impl.OffersOk(offersOf(one, 2, 1)) != want || impl.Paid(3, offersOf(one, 2, 1)[0]) != paidIf(want, 2) {
		t.Errorf("the item %q is valid in a price or an offer: %t", item, !want)
	}
	if _, _, ok := impl.Bill(linesOf(one, 1, true), nil, nil); ok != want {
		t.Errorf("the item %q is valid in a saved line: %t", item, ok)
	}
}

func TestItemsOfLists(t *testing.T) {
	const allowed = "abcdefghijklmnopqrstuvwxyz0123456789"
	for n := range 20 {
		wantItem(t, strings.Repeat("k", n), n >= 1 && n <= 8)
	}
	for _, length := range []int{1, 8} {
		for at := range length {
			for b := range 256 {
				item := []byte(strings.Repeat("k", length))
				item[at] = byte(b)
				wantItem(t, string(item), strings.IndexByte(allowed, byte(b)) >= 0)
			}
		}
	}
	for _, item := range notItems {
		wantItem(t, item, false)
	}
}

func TestCentsOfPrices(t *testing.T) {
	for _, cents := range []int64{1, 2, 30, 250, 999999, 1000000} {
		list := []impl.Price{{Item: "tea", Cents: cents}}
		if !impl.PricesOk(list) {
			t.Errorf("PricesOk(%v) = false", list)
		}
		wantPrice(t, list, "tea", cents, true)
	}
	for at := range 50 {
		for _, cents := range notCents {
			list := pricesOf(numberedItems(50), 1000000)
			list[at].Cents = cents
			if impl.PricesOk(list) {
				t.Errorf("PricesOk with %d cents at %d = true", cents, at)
			}
		}
	}
}

func TestPricesThatAreNotValid(t *testing.T) {
	lines := linesOf([]string{"tea"}, 2, false)
	for _, list := range notPrices() {
		if impl.PricesOk(list) {
			t.Errorf("PricesOk(%v) = true", list)
		}
		for _, item := range []string{"tea", "egg", "oat", "a", "b", "i000", "i049", "none", ""} {
			wantPrice(t, list, item, 0, false)
		}
		wantNoBill(t, lines, list, nil)
		wantNoBill(t, linesOf([]string{"tea"}, 2, true), list, nil)
		wantNoBill(t, nil, list, nil)
	}
}

func TestPiecesOfOffers(t *testing.T) {
	for buy := int64(-1); buy <= 101; buy++ {
		for free := int64(-1); free <= 101; free++ {
			o := impl.Offer{Item: "tea", Buy: buy, Free: free}
			want := buy >= 1 && buy <= 99 && free >= 1 && free <= 99
			if got := impl.OffersOk([]impl.Offer{o}); got != want {
				t.Errorf("OffersOk of %v = %t", o, got)
			}
			wantPaid(t, 1, o, paidIf(want, 1))
		}
	}
}

func TestOffersThatAreNotValid(t *testing.T) {
	for _, list := range notOfferLists() {
		if impl.OffersOk(list) {
			t.Errorf("OffersOk(%v) = true", list)
		}
		wantNoBill(t, linesOf([]string{"tea"}, 2, false), pricesOf([]string{"tea"}, 5), list)
		wantNoBill(t, linesOf([]string{"tea"}, 2, true), nil, list)
		wantNoBill(t, nil, nil, list)
	}
	for _, o := range notOffers() {
		for _, qty := range []int64{0, 1, 2, 3, 999, 1000, -1, math.MinInt64, math.MaxInt64} {
			wantPaid(t, qty, o, -1)
		}
	}
}

func TestPriceOf(t *testing.T) {
	items := numberedItems(50)
	list := pricesOf(items, 0)
	for i := range list {
		list[i].Cents = int64(i*20000 + 1)
	}
	for count := range 51 {
		for i, item := range items {
			if i < count {
				wantPrice(t, list[:count], item, list[i].Cents, true)
			} else {
				wantPrice(t, list[:count], item, 0, false)
			}
		}
		for _, item := range append([]string{"a", "i", "i00", "i0000", "i0005", "i050", "z", "I000", "i000 "}, notItems...) {
			wantPrice(t, list[:count], item, 0, false)
		}
	}
	wantPrice(t, nil, "tea", 0, false)
	wantPrice(t, nil, "", 0, false)
}

func TestPaidExamples(t *testing.T) {
	o := impl.Offer{Item: "egg", Buy: 2, Free: 1}
	for qty, want := range []int64{0, 1, 2, 2, 3, 4, 4, 5, 6, 6} {
		wantPaid(t, int64(qty), o, want)
	}
	wantPaid(t, 999, o, 666)
	wantPaid(t, 998, o, 666)
	wantPaid(t, 997, o, 665)
	wantPaid(t, 999, impl.Offer{Item: "egg", Buy: 1, Free: 99}, 10)
	wantPaid(t, 999, impl.Offer{Item: "egg", Buy: 99, Free: 1}, 990)
	wantPaid(t, 999, impl.Offer{Item: "egg", Buy: 99, Free: 99}, 504)
	wantPaid(t, 5, impl.Offer{Item: "egg", Buy: 99, Free: 99}, 5)
}

func TestPaidForEachNumber(t *testing.T) {
	pieces := []int64{1, 2, 3, 4, 5, 6, 7, 10, 12, 33, 50, 97, 98, 99}
	for _, buy := range pieces {
		for _, free := range pieces {
			o := impl.Offer{Item: "tea", Buy: buy, Free: free}
			for qty := range int64(1000) {
				wantPaid(t, qty, o, paidPieces(qty, buy, free))
			}
			for _, qty := range []int64{-1, -2, -1000, 1000, 1001, math.MinInt64, math.MaxInt64, 1 << 32, 1<<32 + 1} {
				wantPaid(t, qty, o, -1)
			}
		}
	}
}

func TestBillExamples(t *testing.T) {
	lines := []impl.Line{{Item: "egg", Qty: 7}, {Item: "tea", Qty: 2}}
	prices := []impl.Price{{Item: "egg", Cents: 30}, {Item: "tea", Cents: 250}}
	offers := []impl.Offer{{Item: "egg", Buy: 2, Free: 1}}
	wantBill(t, lines, prices, offers, []impl.Row{rowOf("egg", 7, 150), rowOf("tea", 2, 500)}, 650)
	wantBill(t, lines, prices, nil, []impl.Row{rowOf("egg", 7, 210), rowOf("tea", 2, 500)}, 710)
	wantBill(t, lines[:1], prices, offers, []impl.Row{rowOf("egg", 7, 150)}, 150)
	wantBill(t, lines[1:], prices, offers, []impl.Row{rowOf("tea", 2, 500)}, 500)
	wantBill(t, nil, prices, offers, nil, 0)
	wantBill(t, []impl.Line{}, nil, nil, nil, 0)
	// An offer for an item without a line, or without a price, changes nothing.
	offers = []impl.Offer{{Item: "apple", Buy: 1, Free: 99}, {Item: "milk", Buy: 1, Free: 1}, {Item: "zzz", Buy: 1, Free: 1}}
	wantBill(t, lines, prices, offers, []impl.Row{rowOf("egg", 7, 210), rowOf("tea", 2, 500)}, 710)
}

func TestBillLeavesOutSavedLines(t *testing.T) {
	items := []string{"a", "b", "c", "d", "e"}
	cents := []int64{1, 300, 1000000, 7, 20000}
	for bits := range 1 << len(items) {
		lines := linesOf(items, 4, false)
		var prices []impl.Price
		var want []impl.Row
		sum := int64(0)
		for i := range lines {
			lines[i].Saved = bits>>i&1 == 1
			if !lines[i].Saved {
				prices = append(prices, impl.Price{Item: items[i], Cents: cents[i]})
				want = append(want, rowOf(items[i], 4, 4*cents[i]))
				sum += 4 * cents[i]
			}
		}
		// Saved lines need no price.
		wantBill(t, lines, prices, nil, want, sum)
		wantBill(t, lines, slices.Concat(prices, []impl.Price{{Item: "zzz", Cents: 1}}), nil, want, sum)
		for i := range prices {
			wantNoBill(t, lines, slices.Delete(slices.Clone(prices), i, i+1), nil)
		}
	}
	wantBill(t, linesOf(numberedItems(200), 999, true), nil, nil, nil, 0)
}

func TestBillOfAtMost200Lines(t *testing.T) {
	items := numberedItems(50)
	prices := pricesOf(items, 1000000)
	for _, count := range []int{50, 51, 199, 200} {
		lines := slices.Concat(linesOf(items, 999, false), linesOf(numberedItems(count)[50:], 999, true))
		rows, sum, ok := impl.Bill(lines, prices, nil)
		if len(rows) != 50 || sum != 50*999*1000000 || !ok {
			t.Errorf("Bill of %d lines: %d rows, %d, %t", count, len(rows), sum, ok)
		}
	}
	for _, count := range []int{201, 202, 1000} {
		wantNoBill(t, slices.Concat(linesOf(items, 999, false), linesOf(numberedItems(count)[50:], 999, true)), prices, nil)
		wantNoBill(t, linesOf(numberedItems(count), 1, true), prices, nil)
	}
	// There are more lines than prices.
	wantNoBill(t, linesOf(numberedItems(51), 1, false), prices, nil)
}

func TestBillRejectsLines(t *testing.T) {
	prices := pricesOf([]string{"egg", "oat", "tea"}, 5)
	for at := range 3 {
		for bits := range 8 {
			good := linesOf([]string{"egg", "oat", "tea"}, 999, false)
			for i := range good {
				good[i].Saved = bits>>i&1 == 1
			}
			if _, _, ok := impl.Bill(good, prices, nil); !ok {
				t.Fatalf("Bill of %v = false", good)
			}
			for _, qty := range notQtys {
				lines := slices.Clone(good)
				lines[at].Qty = qty
				wantNoBill(t, lines, prices, nil)
			}
			for _, item := range []string{"", "Egg", "te a", "toolong12", "oat\x00"} {
				lines := slices.Clone(good)
				lines[at].Item = item
				wantNoBill(t, lines, prices, nil)
			}
			// The items of two lines are equal, or exchanged.
			lines := slices.Clone(good)
			lines[at].Item = lines[(at+1)%3].Item
			wantNoBill(t, lines, prices, nil)
			lines[(at+1)%3].Item = good[at].Item
			wantNoBill(t, lines, prices, nil)
		}
	}
	for _, item := range notItems {
		wantNoBill(t, linesOf([]string{item}, 1, true), nil, nil)
		wantNoBill(t, linesOf([]string{item}, 1, false), prices, nil)
	}
	wantNoBill(t, []impl.Line{{}}, nil, nil)
	wantNoBill(t, []impl.Line{{Item: "tea"}}, prices, nil)
}

func TestBillOfQtysAtLimits(t *testing.T) {
	prices := pricesOf([]string{"tea"}, 1000000)
	for _, saved := range []bool{false, true} {
		for _, qty := range []int64{1, 2, 998, 999} {
			if _, _, ok := impl.Bill([]impl.Line{{Item: "tea", Qty: qty, Saved: saved}}, prices, nil); !ok {
				t.Errorf("Bill of the quantity %d, saved %t, = false", qty, saved)
			}
		}
	}
	wantBill(t, []impl.Line{{Item: "tea", Qty: 1}}, prices, offersOf([]string{"tea"}, 1, 1), []impl.Row{rowOf("tea", 1, 1000000)}, 1000000)
	wantBill(t, []impl.Line{{Item: "tea", Qty: 999}}, prices, offersOf([]string{"tea"}, 99, 1), []impl.Row{rowOf("tea", 999, 990000000)}, 990000000)
	wantBill(t, []impl.Line{{Item: "tea", Qty: 999}}, prices, nil, []impl.Row{rowOf("tea", 999, 999000000)}, 999000000)
}

func TestBillWithoutAPrice(t *testing.T) {
	items := numberedItems(50)
	prices, lines := pricesOf(items, 3), linesOf(items, 2, false)
	wantNoBill(t, lines, nil, nil)
	wantNoBill(t, lines, nil, offersOf(items, 1, 1))
	for at := range items {
		missing := slices.Delete(slices.Clone(prices), at, at+1)
		wantNoBill(t, lines, missing, nil)
		wantNoBill(t, lines, missing, offersOf(items, 1, 1))
		saved := slices.Clone(lines)
		saved[at].Saved = true
		rows, sum, ok := impl.Bill(saved, missing, nil)
		if len(rows) != 49 || sum != 49*6 || !ok {
			t.Errorf("Bill without the saved line %d: %d rows, %d, %t", at, len(rows), sum, ok)
		}
	}
}

func (d *dice) bill() ([]impl.Line, []impl.Price, []impl.Offer) {
	var lines []impl.Line
	var prices []impl.Price
	var offers []impl.Offer
	for _, item := range []string{"0", "a", "aa", "ab", "b", "tea", "zzzzzzzz"} {
		if d.roll(3) > 0 {
			lines = append(lines, impl.Line{Item: item, Qty: 1 + d.roll(999), Saved: d.roll(3) == 0})
		}
		if d.roll(12) > 0 {
			prices = append(prices, impl.Price{Item: item, Cents: 1 + d.roll(1000000)})
		}
		if d.roll(2) == 0 {
			offers = append(offers, impl.Offer{Item: item, Buy: 1 + d.roll(99), Free: 1 + d.roll(99)})
		}
	}
	return lines, prices, offers
}

func TestRandomBills(t *testing.T) {
	d := dice{state: 120}
	billed := 0
	for range 3000 {
		lines, prices, offers := d.bill()
		want, sum, ok := expectedBill(lines, prices, offers)
		if !ok {
			wantNoBill(t, lines, prices, offers)
			continue
		}
		billed++
		wantBill(t, lines, prices, offers, want, sum)
		for _, row := range want {
			sum -= row.Cents
		}
		if sum != 0 {
			t.Errorf("the sum of %v differs from that of its rows by %d", want, sum)
		}
	}
	if billed < 1000 || billed > 2900 {
		t.Errorf("%d of 3000 bills have all prices", billed)
	}
}

func TestOneMorePieceCostsItsPriceOrNothing(t *testing.T) {
	prices := []impl.Price{{Item: "egg", Cents: 7}, {Item: "tea", Cents: 250}}
	for _, offers := range [][]impl.Offer{nil, offersOf([]string{"tea"}, 1, 1), offersOf([]string{"tea"}, 2, 1), offersOf([]string{"tea"}, 3, 7), offersOf([]string{"tea"}, 99, 99)} {
		lines := []impl.Line{{Item: "egg", Qty: 3}, {Item: "tea", Qty: 1}}
		_, sum, _ := impl.Bill(lines, prices, offers)
		if sum != 271 {
			t.Errorf("Bill of %v, %v: %d", lines, offers, sum)
		}
		paid := int64(1)
		for qty := int64(2); qty <= impl.MaxQty; qty++ {
			lines[1].Qty = qty
			_, next, ok := impl.Bill(lines, prices, offers)
			if cost := next - sum; !ok || cost != 250 && cost != 0 {
				t.Errorf("Bill of %v, %v: %d, %t, after %d", lines, offers, next, ok, sum)
			}
			paid += (next - sum) / 250
			sum = next
		}
		want := int64(999)
		if len(offers) > 0 {
			want = paidPieces(999, offers[0].Buy, offers[0].Free)
		}
		if paid != want {
			t.Errorf("%d of 999 pieces are paid for with %v; want %d", paid, offers, want)
		}
	}
}

// At one cent for each piece and without offers, a bill is the total of the cart.
func TestBillsOfCarts(t *testing.T) {
	prices := pricesOf(slices.Sorted(slices.Values(diceItems)), 1)
	d := dice{state: 121}
	for range 500 {
		c := d.cart(t)
		rows, sum, ok := impl.Bill(impl.LinesOf(c), prices, nil)
		if !ok || sum != impl.Total(c) || len(rows) > len(impl.ItemsOf(c)) {
			t.Errorf("Bill of %v = %v, %d, %t", impl.LinesOf(c), rows, sum, ok)
		}
	}
}

// slackList is a copy of a list with spare capacity, behind which lies something else.
func slackList[E any](list []E, behind E) []E {
	return slices.Concat(list, []E{behind, behind})[:len(list)]
}

func textsOfLines(l []impl.Line) []place {
	var places []place
	for _, line := range l {
		places = append(places, placeOfText(line.Item))
	}
	return places
}

func textsOfRows(rows []impl.Row) []place {
	var places []place
	for _, row := range rows {
		places = append(places, placeOfText(row.Item))
	}
	return places
}

func TestBillArgumentsAreKept(t *testing.T) {
	d := dice{state: 122}
	for range 200 {
		lines, prices, offers := d.bill()
		l := slackList(lines, impl.Line{Item: "behind", Qty: 98})
		p := slackList(prices, impl.Price{Item: "behind", Cents: 98})
		o := slackList(offers, impl.Offer{Item: "behind", Buy: 97, Free: 98})
		wantL, wantP, wantO := slices.Clone(l[:cap(l)]), slices.Clone(p[:cap(p)]), slices.Clone(o[:cap(o)])
		rows, sum, ok := impl.Bill(l, p, o)
		want := slices.Clone(rows)
		wantApart(t, "Bill: texts of the rows and of the lines", textsOfRows(rows), textsOfLines(l))
		for i := range rows {
			rows[i] = impl.Row{Item: "spoiled", Qty: -7, Cents: -7}
		}
		again, sumAgain, okAgain := impl.Bill(l, p, o)
		if !slices.Equal(again, want) || sumAgain != sum || okAgain != ok {
			t.Errorf("Bill with equal arguments: %v, %d, %t, then %v, %d, %t", want, sum, ok, again, sumAgain, okAgain)
		}
		for _, item := range []string{"a", "none", ""} {
			cents, found := impl.PriceOf(p, item)
			wantPrice(t, p, item, cents, found)
		}
		if impl.PricesOk(p) != impl.PricesOk(p) || impl.OffersOk(o) != impl.OffersOk(o) {
			t.Error("PricesOk or OffersOk with equal arguments differs")
		}
		if !slices.Equal(l[:cap(l)], wantL) || !slices.Equal(p[:cap(p)], wantP) || !slices.Equal(o[:cap(o)], wantO) {
			t.Fatalf("the arguments are now %v, %v, %v; they were %v, %v, %v", l[:cap(l)], p[:cap(p)], o[:cap(o)], wantL, wantP, wantO)
		}
	}
}

// A list that is not valid is not put in order either.
func TestBillArgumentsThatAreNotValidAreKept(t *testing.T) {
	for order, ok := range orders() {
		items := strings.Fields(order)
		l, p, o := linesOf(items, 3, false), pricesOf(items, 5), offersOf(items, 2, 1)
		wantL, wantP, wantO := slices.Clone(l), slices.Clone(p), slices.Clone(o)
		impl.Bill(l, nil, nil)
		impl.Bill(nil, p, o)
		impl.PriceOf(p, "b")
		if impl.PricesOk(p) != ok || impl.OffersOk(o) != ok || !slices.Equal(l, wantL) || !slices.Equal(p, wantP) || !slices.Equal(o, wantO) {
			t.Errorf("the arguments are now %v, %v, %v; they were %v, %v, %v", l, p, o, wantL, wantP, wantO)
		}
	}
}
