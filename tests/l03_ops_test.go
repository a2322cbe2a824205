package tests

import (
	"encoding/binary"
	"math"
	"slices"
	"strings"
	"testing"

	"loop.example/g00660/impl"
)

// kindOps are valid operations, one of each Kind.
func kindOps() []impl.Op {
	return []impl.Op{
		{Dev: 1, Seq: 2, Stamp: 3, Kind: impl.OkAdd, Item: "tea", Qty: 2, Level: 1},
		{Dev: 0, Seq: 5, Stamp: 70, Kind: impl.OkSet, Item: "egg7", Qty: 12, Undos: 1},
		{Dev: 2, Seq: 9, Stamp: 800, Kind: impl.OkRemove, Item: "0", Level: 2, Undos: 2},
		{Dev: 3, Seq: 40, Stamp: 100000, Kind: impl.OkSave, Item: "oatmilk9", Undos: 50},
		{Dev: 1, Seq: 1, Stamp: 1, Kind: impl.OkBack, Item: "z", Undos: 49},
	}
}

// fields are the numbers of an operation whose limits are the same for each Kind.
func fields() []struct {
	name      string
	of        func(o *impl.Op) *int64
	low, high int64
} {
	return []struct {
		name      string
		of        func(o *impl.Op) *int64
		low, high int64
	}{
		{"Dev", func(o *impl.Op) *int64 { return &o.Dev }, 0, 3},
		{"Seq", func(o *impl.Op) *int64 { return &o.Seq }, 1, 40},
		{"Stamp", func(o *impl.Op) *int64 { return &o.Stamp }, 1, 100000},
		{"Undos", func(o *impl.Op) *int64 { return &o.Undos }, 0, 50},
	}
}

// qtyAndLevelOk says in other words than the program what each Kind requires.
func qtyAndLevelOk(kind int64, qty int64, level int64) bool {
	hasQty := qty > 0 && qty < 1000
	hasLevel := level > 0 && level < 101
	switch kind {
	case 1:
		return hasQty && hasLevel && level&1 == 1
	case 2:
		return hasQty && level == 0
	case 3:
		return qty == 0 && hasLevel && level&1 == 0
	case 4, 5:
		return qty == 0 && level == 0
	}
	return false
}

func notOps() []impl.Op {
	return append(brokenOps(kindOps()), impl.Op{})
}

// brokenOps are the given operations with one field modified, so that they are not valid for one reason.
func brokenOps(ops []impl.Op) []impl.Op {
	var list []impl.Op
	change := func(o impl.Op, f func(o *impl.Op)) {
		f(&o)
		list = append(list, o)
	}
	for _, o := range ops {
		for _, field := range fields() {
			for _, n := range []int64{field.low - 1, field.high + 1, math.MinInt64, math.MaxInt64, 1<<32 + field.low} {
				change(o, func(o *impl.Op) { *field.of(o) = n })
			}
		}
		for _, item := range []string{"", "toolong12", "Tea", "te a", "t\xc3\xa9", "a\x00", strings.Repeat("a", 4001)} {
			change(o, func(o *impl.Op) { o.Item = item })
		}
		for _, kind := range []int64{-1, 0, 6, math.MinInt64, math.MaxInt64, 1<<32 + o.Kind} {
			change(o, func(o *impl.Op) { o.Kind = kind })
		}
		for _, n := range []int64{-1, 1000, math.MinInt64, math.MaxInt64, 1<<32 + 1} {
			change(o, func(o *impl.Op) { o.Qty = n })
		}
		for _, n := range []int64{-2, -1, 101, 102, math.MinInt64, math.MaxInt64, 1<<32 + 1, 1 << 32} {
			change(o, func(o *impl.Op) { o.Level = n })
		}
	}
	return list
}

// encodedAnyway is the encoding of an operation whose numbers are not negative, valid or not.
func encodedAnyway(o impl.Op) string {
	var out []byte
	for _, n := range []int64{o.Dev, o.Seq, o.Stamp, o.Kind, int64(len(o.Item))} {
		out = binary.AppendUvarint(out, uint64(n))
	}
	out = append(out, o.Item...)
	for _, n := range []int64{o.Qty, o.Level, o.Undos} {
		out = binary.AppendUvarint(out, uint64(n))
	}
	return string(out)
}

// encodableOps are valid operations whose fields have encodings of every length that they can have.
func encodableOps() []impl.Op {
	list := kindOps()
	for _, o := range kindOps() {
		for _, stamp := range []int64{1, 127, 128, 16383, 16384, 99999, 100000} {
			for _, item := range []string{"a", "09", "abcdefgh"} {
				for _, undos := range []int64{0, 1, 50} {
					o.Stamp, o.Item, o.Undos = stamp, item, undos
					list = append(list, o)
				}
			}
		}
	}
	for _, qty := range []int64{1, 127, 128, 999} {
		list = append(list, impl.Op{Seq: 1, Stamp: 1, Kind: impl.OkAdd, Item: "a", Qty: qty, Level: 99})
		list = append(list, impl.Op{Seq: 1, Stamp: 1, Kind: impl.OkSet, Item: "a", Qty: qty})
	}
	return append(list, impl.Op{Seq: 1, Stamp: 1, Kind: impl.OkRemove, Item: "a", Level: 100})
}

func wantNoOp(t *testing.T, s string) {
	t.Helper()
	if o, length, ok := impl.ReadOp(s); o != (impl.Op{}) || length != 0 || ok {
		t.Errorf("ReadOp(%q) = %+v, %d, %t; want the zero value, 0, false", s, o, length, ok)
	}
}

func TestOpOkForEachKind(t *testing.T) {
	for _, o := range append(kindOps(), encodableOps()...) {
		if !impl.OpOk(o) {
			t.Errorf("OpOk(%+v) = false", o)
		}
	}
	for _, o := range notOps() {
		if impl.OpOk(o) {
			t.Errorf("OpOk(%+v) = true", o)
		}
	}
}

func TestOpOkAtLimits(t *testing.T) {
	for _, o := range kindOps() {
		for _, field := range fields() {
			for _, n := range []int64{field.low, field.low + 1, field.high - 1, field.high} {
				x := o
				*field.of(&x) = n
				if !impl.OpOk(x) {
					t.Errorf("Kind %d with %s %d is not valid", o.Kind, field.name, n)
				}
			}
			for _, n := range []int64{field.low - 1, field.high + 1} {
				x := o
				*field.of(&x) = n
				if impl.OpOk(x) {
					t.Errorf("Kind %d with %s %d is valid", o.Kind, field.name, n)
				}
			}
		}
	}
}

func TestOpOkForEachQtyAndLevel(t *testing.T) {
	levels := []int64{math.MinInt64, math.MaxInt64, 1<<32 + 1, 1<<32 + 2, -101, -100}
	for n := int64(-3); n <= 103; n++ {
		levels = append(levels, n)
	}
	for kind := int64(-1); kind <= 7; kind++ {
		for _, qty := range []int64{math.MinInt64, -1, 0, 1, 2, 500, 998, 999, 1000, 1<<32 + 1, math.MaxInt64} {
			for _, level := range levels {
				o := impl.Op{Dev: 1, Seq: 2, Stamp: 3, Kind: kind, Item: "tea", Qty: qty, Level: level}
				if want := qtyAndLevelOk(kind, qty, level); impl.OpOk(o) != want {
					t.Errorf("OpOk(%+v) = %t", o, !want)
				}
			}
		}
	}
}

func TestOpOkForEachItem(t *testing.T) {
	const allowed = "abcdefghijklmnopqrstuvwxyz0123456789"
	for _, o := range kindOps() {
		for n := range 20 {
			o.Item = strings.Repeat("k", n)
			if want := n >= 1 && n <= 8; impl.OpOk(o) != want {
				t.Errorf("Kind %d with an Item of %d letters: OpOk = %t", o.Kind, n, !want)
			}
		}
		for _, length := range []int{1, 4, 8} {
			for at := range length {
				for b := range 256 {
					item := []byte(strings.Repeat("k", length))
					item[at] = byte(b)
					o.Item = string(item)
					if want := strings.IndexByte(allowed, byte(b)) >= 0; impl.OpOk(o) != want {
						t.Errorf("Kind %d with the Item %q: OpOk = %t", o.Kind, o.Item, !want)
					}
				}
			}
		}
	}
}

func TestLiveChangesWithEachUndo(t *testing.T) {
	for _, o := range kindOps() {
		live := false
		for o.Undos = 0; o.Undos <= impl.MaxUndo; o.Undos++ {
			if impl.Live(o) == live {
				t.Errorf("Kind %d with Undos %d: Live = %t", o.Kind, o.Undos, live)
			}
			live = !live
		}
		for _, undos := range []int64{-2, -1, 51, 52, math.MinInt64, math.MaxInt64 - 1} {
			o.Undos = undos
			if impl.Live(o) {
				t.Errorf("Kind %d with Undos %d is live", o.Kind, undos)
			}
		}
	}
	for _, o := range notOps() {
		if impl.Live(o) {
			t.Errorf("Live(%+v) = true", o)
		}
	}
}

// orderedOps are valid operations with equal and different stamps, devices and numbers, in the order of Before.
// The fields that do not count for it are as different as they can be.
func orderedOps() []impl.Op {
	var list []impl.Op
	for _, stamp := range []int64{1, 2, 127, 128, 99999, 100000} {
		for dev := range int64(impl.Devices) {
			for _, seq := range []int64{1, 2, 9, 10, 39, 40} {
				o := kindOps()[len(list)*3%5]
				o.Stamp, o.Dev, o.Seq = stamp, dev, seq
				list = append(list, o)
			}
		}
	}
	return list
}

func TestBeforeIsAnOrder(t *testing.T) {
	list := orderedOps()
	for i, a := range list {
		for j, b := range list {
			if impl.Before(a, b) != (i < j) {
				t.Fatalf("Before(%+v, %+v) = %t", a, b, i >= j)
			}
		}
	}
}

func TestBeforeExamples(t *testing.T) {
	op := func(stamp int64, dev int64, seq int64) impl.Op {
		return impl.Op{Dev: dev, Seq: seq, Stamp: stamp, Kind: impl.OkSave, Item: "a"}
	}
	for _, c := range []struct{ first, second impl.Op }{
		{op(1, 3, 40), op(2, 0, 1)},
		{op(9, 3, 40), op(10, 0, 1)},
		{op(5, 0, 40), op(5, 1, 1)},
		{op(5, 2, 7), op(5, 2, 8)},
	} {
		if !impl.Before(c.first, c.second) || impl.Before(c.second, c.first) {
			t.Errorf("%+v does not precede %+v", c.first, c.second)
		}
	}
}

// Operations with the same stamp, device and number precede neither each other nor themselves.
func TestBeforeIgnoresOtherFields(t *testing.T) {
	for _, a := range kindOps() {
		for _, b := range kindOps() {
			b.Stamp, b.Dev, b.Seq = a.Stamp, a.Dev, a.Seq
			if impl.Before(a, b) || impl.Before(b, a) {
				t.Errorf("%+v and %+v: one precedes the other", a, b)
			}
		}
	}
}

func TestBeforeRejectsNotOps(t *testing.T) {
	least := impl.Op{Dev: 0, Seq: 1, Stamp: 1, Kind: impl.OkSave, Item: "a"}
	greatest := impl.Op{Dev: 3, Seq: 40, Stamp: 100000, Kind: impl.OkSave, Item: "a"}
	for _, bad := range notOps() {
		for _, o := range []impl.Op{least, greatest, bad} {
			if impl.Before(bad, o) || impl.Before(o, bad) {
				t.Errorf("%+v precedes %+v or follows it", bad, o)
			}
		}
	}
}

func TestOpBytesExamples(t *testing.T) {
	for _, c := range []struct {
		o    impl.Op
		want string
	}{
		{impl.Op{Dev: 1, Seq: 2, Stamp: 3, Kind: impl.OkAdd, Item: "tea", Qty: 2, Level: 1}, "\x01\x02\x03\x01\x03tea\x02\x01\x00"},
		{impl.Op{Dev: 0, Seq: 1, Stamp: 1, Kind: impl.OkSet, Item: "a", Qty: 999}, "\x00\x01\x01\x02\x01a\xe7\x07\x00\x00"},
		{impl.Op{Dev: 3, Seq: 40, Stamp: 100000, Kind: impl.OkRemove, Item: "12345678", Level: 100, Undos: 50}, "\x03\x28\xa0\x8d\x06\x03\x0812345678\x00\x64\x32"},
		{impl.Op{Dev: 2, Seq: 3, Stamp: 300, Kind: impl.OkSave, Item: "egg", Undos: 1}, "\x02\x03\xac\x02\x04\x03egg\x00\x00\x01"},
		{impl.Op{Dev: 2, Seq: 4, Stamp: 301, Kind: impl.OkBack, Item: "egg"}, "\x02\x04\xad\x02\x05\x03egg\x00\x00\x00"},
	} {
		if got := impl.OpBytes(c.o); got != c.want {
			t.Errorf("OpBytes(%+v) = %q; want %q", c.o, got, c.want)
		}
	}
	for _, o := range notOps() {
		if got := impl.OpBytes(o); got != "" {
			t.Errorf("OpBytes(%+v) = %q; want \"\"", o, got)
		}
	}
}

func TestReadOpRecoversOps(t *testing.T) {
	for _, o := range encodableOps() {
		s := impl.OpBytes(o)
		if s != encodedAnyway(o) {
			t.Errorf("OpBytes(%+v) = %q; want %q", o, s, encodedAnyway(o))
		}
		for _, more := range append(followers, s) {
			got, length, ok := impl.ReadOp(s + more)
			if got != o || length != int64(len(s)) || !ok {
				t.Errorf("ReadOp(%q) = %+v, %d, %t; want %+v, %d, true", s+more, got, length, ok, o, len(s))
			}
		}
	}
}

func TestReadOpRejectsTruncated(t *testing.T) {
	for _, o := range encodableOps() {
		s := impl.OpBytes(o)
		for i := range len(s) {
			wantNoOp(t, s[:i])
		}
	}
}

// Each number of an encoding, the length of the item included, is rejected in a longer form.
func TestReadOpRejectsLongerThanNeeded(t *testing.T) {
	for _, o := range kindOps() {
		parts := []string{impl.VarOf(o.Dev), impl.VarOf(o.Seq), impl.VarOf(o.Stamp), impl.VarOf(o.Kind),
			impl.VarOf(int64(len(o.Item))), o.Item, impl.VarOf(o.Qty), impl.VarOf(o.Level), impl.VarOf(o.Undos)}
		for i := range parts {
			if i == 5 {
				continue
			}
			longer := slices.Clone(parts)
			last := len(parts[i]) - 1
			longer[i] = parts[i][:last] + string([]byte{parts[i][last] + 128, 0})
			for _, more := range followers {
				wantNoOp(t, strings.Join(longer, "")+more)
			}
		}
	}
}

func TestReadOpRejectsNotOps(t *testing.T) {
	for _, o := range notOps() {
		// The encoding of a negative number as an unsigned one is too long, and rejected as such.
		wantNoOp(t, encodedAnyway(o))
		wantNoOp(t, encodedAnyway(o)+"\x00\x00\x00")
	}
	for _, s := range []string{"", "\x00", "more", strings.Repeat("\x00", 100), strings.Repeat("\x01", 100), strings.Repeat("\xff", 100)} {
		wantNoOp(t, s)
	}
}

// An encoding in which one byte differs is that of another operation, or of none.
func TestReadOpOfModifiedEncodings(t *testing.T) {
	for _, o := range kindOps() {
		s := impl.OpBytes(o)
		for i := range len(s) {
			for b := range 256 {
				modified := s[:i] + string([]byte{byte(b)}) + s[i+1:] + "\x00more"
				got, length, ok := impl.ReadOp(modified)
				if !ok {
					wantNoOp(t, modified)
				} else if !impl.OpOk(got) || impl.OpBytes(got) != modified[:length] {
					t.Errorf("ReadOp(%q) = %+v, %d, true", modified, got, length)
				}
			}
		}
	}
}
