package tests

import (
	"encoding/binary"
	"hash/crc32"
	"math"
	"strings"
	"testing"

	"loop.example/g00660/impl"
)

// followers are what may stand behind an encoding without changing how it is read.
var followers = []string{"", "\x00", "\x7f", "\x80", "\xff", "more", "\xff\xff\xff\xff\xff\xff\xff\xff\xff\xff\xff"}

// numbers are the least and the greatest number of each length of encoding, and some between them.
func numbers() []int64 {
	list := []int64{0, 1, 2, 100, 300, 4000, 1000000007, math.MaxInt64 - 1, math.MaxInt64}
	for bits := 7; bits < 63; bits += 7 {
		limit := int64(1) << bits
		list = append(list, limit-1, limit, limit+1, limit+limit/3)
	}
	return list
}

// patterned returns n bytes of all values, none of which is at the same place in a text of another length.
func patterned(n int) string {
	out := make([]byte, n)
	for i := range out {
		out[i] = byte(i*7 + i/256 + n)
	}
	return string(out)
}

func wantNoVar(t *testing.T, s string) {
	t.Helper()
	if n, length, ok := impl.ReadVar(s); n != 0 || length != 0 || ok {
		t.Errorf("ReadVar(%q) = %d, %d, %t; want 0, 0, false", s, n, length, ok)
	}
}

func wantNoText(t *testing.T, s string) {
	t.Helper()
	if text, length, ok := impl.ReadText(s); text != "" || length != 0 || ok {
		t.Errorf("ReadText of %d bytes = %d bytes, %d, %t; want \"\", 0, false", len(s), len(text), length, ok)
	}
}

func wantNotSealed(t *testing.T, s string) {
	t.Helper()
	if text, ok := impl.Unsealed(s); text != "" || ok {
		t.Errorf("Unsealed of %d bytes = %d bytes, %t; want \"\", false", len(s), len(text), ok)
	}
}

func TestVarOfExamples(t *testing.T) {
	for _, c := range []struct {
		n    int64
		want string
	}{
		{0, "\x00"},
		{127, "\x7f"},
		{128, "\x80\x01"},
		{300, "\xac\x02"},
		{16383, "\xff\x7f"},
		{16384, "\x80\x80\x01"},
		{math.MaxInt64, "\xff\xff\xff\xff\xff\xff\xff\xff\x7f"},
		{-1, ""},
		{-300, ""},
		{math.MinInt64, ""},
	} {
		if got := impl.VarOf(c.n); got != c.want {
			t.Errorf("VarOf(%d) = %q; want %q", c.n, got, c.want)
		}
	}
}

func TestVarOfIsTheUsualEncoding(t *testing.T) {
	for _, n := range numbers() {
		want := string(binary.AppendUvarint(nil, uint64(n)))
		if got := impl.VarOf(n); got != want {
			t.Errorf("VarOf(%d) = %q; want %q", n, got, want)
		}
	}
}

func TestReadVarRecoversNumbers(t *testing.T) {
	for _, n := range numbers() {
		s := impl.VarOf(n)
		for _, more := range followers {
			got, length, ok := impl.ReadVar(s + more)
			if got != n || length != int64(len(s)) || !ok {
				t.Errorf("ReadVar(%q) = %d, %d, %t; want %d, %d, true", s+more, got, length, ok, n, len(s))
			}
		}
	}
}

func TestReadVarRejectsTruncated(t *testing.T) {
	for _, n := range numbers() {
		s := impl.VarOf(n)
		for i := range len(s) {
			wantNoVar(t, s[:i])
		}
	}
}

func TestReadVarRejectsLongerThanNeeded(t *testing.T) {
	for _, n := range numbers() {
		s := []byte(impl.VarOf(n))
		s[len(s)-1] += 128
		for _, more := range followers {
			wantNoVar(t, string(s)+"\x00"+more)
			wantNoVar(t, string(s)+"\x80\x00"+more)
		}
	}
}

func TestReadVarRejectsTooGreat(t *testing.T) {
	for _, s := range []string{
		"\x80\x80\x80\x80\x80\x80\x80\x80\x80\x01",
		"\xff\xff\xff\xff\xff\xff\xff\xff\xff\x00",
		"\xff\xff\xff\xff\xff\xff\xff\xff\xff\x01",
		"\xff\xff\xff\xff\xff\xff\xff\xff\xff\x7f",
		"\x80\x80\x80\x80\x80\x80\x80\x80\x80\x80\x01",
		strings.Repeat("\xff", 100),
		strings.Repeat("\x80", 100000) + "\x01",
	} {
		wantNoVar(t, s)
	}
}

// Every string of three bytes is read as the one number whose encoding it begins with, or not at all.
func TestReadVarOfAllShortStrings(t *testing.T) {
	for i := range 1 << 24 {
		s := string([]byte{byte(i), byte(i >> 8), byte(i >> 16)})
		want, length := binary.Uvarint([]byte(s))
		wantOk := length > 0 && (length == 1 || s[length-1] != 0)
		if !wantOk {
			want, length = 0, 0
		}
		got, gotLength, ok := impl.ReadVar(s)
		if got != int64(want) || gotLength != int64(length) || ok != wantOk {
			t.Fatalf("ReadVar(%q) = %d, %d, %t; want %d, %d, %t", s, got, gotLength, ok, want, length, wantOk)
		}
	}
}

func TestTextOfExamples(t *testing.T) {
	for s, want := range map[string]string{
		"":              "\x00",
		"abc":           "\x03abc",
		"\x00":          "\x01\x00",
		"\xff\xfe":      "\x02\xff\xfe",
		patterned(127):  "\x7f" + patterned(127),
		patterned(128):  "\x80\x01" + patterned(128),
		patterned(3999): "\x9f\x1f" + patterned(3999),
		patterned(4000): "\xa0\x1f" + patterned(4000),
		patterned(4001): "",
		patterned(9000): "",
	} {
		if got := impl.TextOf(s); got != want {
			t.Errorf("TextOf of %d bytes has %d bytes; want %d", len(s), len(got), len(want))
		}
	}
}

func TestReadTextExample(t *testing.T) {
	if s, length, ok := impl.ReadText("\x03abcd"); s != "abc" || length != 4 || !ok {
		t.Errorf("ReadText = %q, %d, %t; want \"abc\", 4, true", s, length, ok)
	}
}

func TestReadTextRecoversTexts(t *testing.T) {
	for _, n := range []int{0, 1, 2, 3, 100, 127, 128, 129, 255, 256, 3999, impl.MaxText} {
		s := patterned(n)
		encoded := impl.TextOf(s)
		for _, more := range followers {
			got, length, ok := impl.ReadText(encoded + more)
			if got != s || length != int64(len(encoded)) || !ok {
				t.Errorf("ReadText of the encoding of %d bytes and %q = %d bytes, %d, %t", n, more, len(got), length, ok)
			}
		}
	}
}

func TestReadTextRejectsTruncated(t *testing.T) {
	for _, n := range []int{0, 1, 5, 127, 128, 300, impl.MaxText} {
		encoded := impl.TextOf(patterned(n))
		for i := range len(encoded) {
			wantNoText(t, encoded[:i])
		}
	}
}

func TestReadTextRejectsBadLengths(t *testing.T) {
	for _, s := range []string{
		impl.VarOf(impl.MaxText+1) + patterned(impl.MaxText+1),
		impl.VarOf(impl.MaxText+1) + patterned(impl.MaxText+100),
		impl.VarOf(math.MaxInt32+1) + "abc",
		impl.VarOf(math.MaxInt64) + "abc",
		impl.VarOf(math.MaxInt64-8) + patterned(5000),
		"\x83\x00abc",
		"\x80\x00",
		"\xff\xff\xff\xff\xff\xff\xff\xff\xff\x01abc",
	} {
		wantNoText(t, s)
	}
}

func TestSumOf(t *testing.T) {
	for s, want := range map[string]int64{
		"":          0,
		"abc":       0x352441c2,
		"123456789": 0xcbf43926,
		"\x00":      0xd202ef8d,
		"\xff":      0xff000000,
	} {
		if got := impl.SumOf(s); got != want {
			t.Errorf("SumOf(%q) = %#x; want %#x", s, got, want)
		}
	}
	lengths := []int{16000, 16001, 19999, 20000}
	for n := range 600 {
		lengths = append(lengths, n)
	}
	for _, n := range lengths {
		s := patterned(n)
		if got := impl.SumOf(s); got != int64(crc32.ChecksumIEEE([]byte(s))) {
			t.Errorf("SumOf of %d bytes = %#x", n, got)
		}
	}
	for _, n := range []int{20001, 30000} {
		if got := impl.SumOf(patterned(n)); got != -1 {
			t.Errorf("SumOf of %d bytes = %d; want -1", n, got)
		}
	}
}

func TestSealedExamples(t *testing.T) {
	for s, want := range map[string]string{
		"":               "\x00\x00\x00\x00",
		"abc":            "abc\x35\x24\x41\xc2",
		"123456789":      "123456789\xcb\xf4\x39\x26",
		patterned(16001): "",
		patterned(20001): "",
	} {
		if got := impl.Sealed(s); got != want {
			t.Errorf("Sealed of %d bytes = %q; want %q", len(s), got, want)
		}
	}
}

func TestUnsealedRecoversStrings(t *testing.T) {
	for _, n := range []int{0, 1, 3, 4, 5, 255, 256, 257, 4001, 15999, 16000} {
		s := patterned(n)
		sealed := impl.Sealed(s)
		if len(sealed) != n+4 {
			t.Errorf("Sealed of %d bytes has %d bytes", n, len(sealed))
		}
		if got, ok := impl.Unsealed(sealed); got != s || !ok {
			t.Errorf("Unsealed of Sealed of %d bytes = %d bytes, %t", n, len(got), ok)
		}
	}
}

func TestUnsealedRejectsModifiedBits(t *testing.T) {
	for _, s := range []string{"", "a", "abc", "\x00\x00\x00\x00", patterned(60), patterned(300)} {
		rejectModifiedBits(t, impl.Sealed(s), 1)
	}
	rejectModifiedBits(t, impl.Sealed(patterned(16000)), 1009)
}

// rejectModifiedBits modifies every bit whose index is a multiple of step, one at a time, and each of the last 32.
func rejectModifiedBits(t *testing.T, sealed string, step int) {
	t.Helper()
	for bit := range len(sealed) * 8 {
		if bit%step != 0 && bit < len(sealed)*8-32 {
			continue
		}
		modified := []byte(sealed)
		modified[bit/8] ^= 1 << (bit % 8)
		wantNotSealed(t, string(modified))
	}
}

func TestUnsealedRejectsOtherStrings(t *testing.T) {
	tooLong := patterned(16001)
	for _, s := range []string{
		"",
		"a",
		"abc",
		"\x00\x00\x00",
		"\x00\x00\x00\x01",
		"abd\x35\x24\x41\xc2",
		"abc\xc2\x41\x24\x35",
		"abc\x35\x24\x41\xc2\x00",
		"\x35\x24\x41\xc2abc",
		string(binary.BigEndian.AppendUint32([]byte(tooLong), crc32.ChecksumIEEE([]byte(tooLong)))),
		strings.Repeat("\x00", 100000),
	} {
		wantNotSealed(t, s)
	}
	sealed := impl.Sealed("shopping")
	for i := range len(sealed) {
		wantNotSealed(t, sealed[:i])
	}
}
