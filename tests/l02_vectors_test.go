package tests

import (
	"fmt"
	"math"
	"slices"
	"testing"

	"loop.example/g00660/impl"
)

// notVectors are lists with a wrong length, or with an element that exceeds a limit.
func notVectors() [][]int64 {
	list := [][]int64{nil, {}, {0}, {1, 2, 3}, {1, 2, 3, 4, 5}, {0, 0, 0, 0, 0}, make([]int64, 400)}
	for i := range impl.Devices {
		for _, n := range []int64{-1, 41, 1000, math.MinInt64, math.MaxInt64, 1 << 32} {
			v := []int64{1, 2, 3, 4}
			v[i] = n
			list = append(list, v)
		}
	}
	return list
}

// vectors are all vectors with these elements.
func vectors(elements ...int64) [][]int64 {
	var list [][]int64
	for _, a := range elements {
		for _, b := range elements {
			for _, c := range elements {
				for _, d := range elements {
					list = append(list, []int64{a, b, c, d})
				}
			}
		}
	}
	return list
}

func wantNoVec(t *testing.T, s string) {
	t.Helper()
	if v, ok := impl.ReadVec(s); len(v) != 0 || ok {
		t.Errorf("ReadVec(%q) = %v, %t; want nothing, false", s, v, ok)
	}
}

func TestVecOk(t *testing.T) {
	for _, v := range vectors(0, 1, 39, 40) {
		if !impl.VecOk(v) {
			t.Errorf("VecOk(%v) = false", v)
		}
	}
	for _, v := range notVectors() {
		if impl.VecOk(v) {
			t.Errorf("VecOk(%v) = true", v)
		}
	}
}

func TestVecExamples(t *testing.T) {
	a, b := []int64{1, 5, 0, 2}, []int64{3, 4, 0, 2}
	if got := impl.VecMax(a, b); !slices.Equal(got, []int64{3, 5, 0, 2}) {
		t.Errorf("VecMax = %v", got)
	}
	if got := impl.VecMin(a, b); !slices.Equal(got, []int64{1, 4, 0, 2}) {
		t.Errorf("VecMin = %v", got)
	}
	if impl.VecWithin(a, b) || impl.VecWithin(b, a) {
		t.Error("neither vector is within the other one")
	}
}

func TestVecMaxAndVecMinBound(t *testing.T) {
	list := vectors(0, 7, 39, 40)
	for _, a := range list {
		for _, b := range list {
			greater, lesser := impl.VecMax(a, b), impl.VecMin(a, b)
			if len(greater) != impl.Devices || len(lesser) != impl.Devices {
				t.Fatalf("VecMax, VecMin of %v, %v = %v, %v", a, b, greater, lesser)
			}
			for i := range a {
				if greater[i] < a[i] || greater[i] < b[i] || lesser[i] > a[i] || lesser[i] > b[i] || greater[i]+lesser[i] != a[i]+b[i] {
					t.Fatalf("VecMax, VecMin of %v, %v = %v, %v", a, b, greater, lesser)
				}
			}
			if !impl.VecWithin(a, greater) || !impl.VecWithin(b, greater) || !impl.VecWithin(lesser, a) || !impl.VecWithin(lesser, b) {
				t.Fatalf("%v, %v are not between %v and %v", a, b, lesser, greater)
			}
		}
	}
}

func TestVecWithinComparesEachIndex(t *testing.T) {
	list := vectors(0, 20, 40)
	for _, a := range list {
		for _, b := range list {
			want := a[0] <= b[0] && a[1] <= b[1] && a[2] <= b[2] && a[3] <= b[3]
			if impl.VecWithin(a, b) != want {
				t.Fatalf("VecWithin(%v, %v) = %t", a, b, !want)
			}
		}
	}
}

func TestVecFunctionsRejectNotVectors(t *testing.T) {
	good := []int64{1, 2, 3, 4}
	for _, bad := range notVectors() {
		for _, pair := range [][2][]int64{{bad, good}, {good, bad}, {bad, bad}} {
			if got := impl.VecMax(pair[0], pair[1]); len(got) != 0 {
				t.Errorf("VecMax(%v, %v) = %v", pair[0], pair[1], got)
			}
			if got := impl.VecMin(pair[0], pair[1]); len(got) != 0 {
				t.Errorf("VecMin(%v, %v) = %v", pair[0], pair[1], got)
			}
			if impl.VecWithin(pair[0], pair[1]) {
				t.Errorf("VecWithin(%v, %v) = true", pair[0], pair[1])
			}
		}
		if got := impl.VecText(bad); got != "" {
			t.Errorf("VecText(%v) = %q", bad, got)
		}
	}
}

func TestVecTextExamples(t *testing.T) {
	for want, v := range map[string][]int64{
		"0.0.0.0":     {0, 0, 0, 0},
		"40.0.7.10":   {40, 0, 7, 10},
		"40.40.40.40": {40, 40, 40, 40},
		"1.9.10.39":   {1, 9, 10, 39},
	} {
		if got := impl.VecText(v); got != want {
			t.Errorf("VecText(%v) = %q; want %q", v, got, want)
		}
	}
}

func TestReadVecRecoversVectors(t *testing.T) {
	list := vectors(0, 1, 9, 10, 39, 40)
	for n := range int64(impl.MaxSeq + 1) {
		list = append(list, []int64{n, 1, 2, 3}, []int64{1, n, 2, 3}, []int64{1, 2, n, 3}, []int64{1, 2, 3, n})
	}
	for _, v := range list {
		s := impl.VecText(v)
		if want := fmt.Sprintf("%d.%d.%d.%d", v[0], v[1], v[2], v[3]); s != want {
			t.Errorf("VecText(%v) = %q; want %q", v, s, want)
		}
		if got, ok := impl.ReadVec(s); !slices.Equal(got, v) || !ok {
			t.Errorf("ReadVec(%q) = %v, %t", s, got, ok)
		}
	}
}

func TestReadVecRejectsOtherTexts(t *testing.T) {
	for _, s := range []string{
		"", ".", "...", "1", "1.2.3", "1.2.3.4.5", "1.2.3.4.", ".1.2.3.4", "1..2.3", "1.2.3.",
		".2.3.4", "1.2..4", "1,2.3.4", "1.2.3.41", "41.2.3.4", "1.2.41.4", "1.2.3.100",
		"1.2.3.1000000000", "1.2.3.0000000001", "1.2.3.99999999999999999999", "1.2.3.18446744073709551617", "1.2.3.4294967297",
		"01.2.3.4", "1.2.3.00", "1.00.3.4", "-1.2.3.4", "-0.2.3.4", "+1.2.3.4", "1.2.3.-4",
		" 1.2.3.4", "1.2.3.4 ", "1. 2.3.4", "1.2.3.4\n", "1.2.3.a", "0x1.2.3.4", "1_0.2.3.4", "1e1.2.3.4",
		"1.2.3.\xd9\xa3", "1.2.3.\x00", "\xff.2.3.4", "1.2.3./", "1.2.3.:",
	} {
		wantNoVec(t, s)
	}
}

// A text that differs in one byte from that of a vector is the text of another vector, or of none.
func TestReadVecOfModifiedTexts(t *testing.T) {
	for _, s := range []string{"0.0.0.0", "40.0.7.10", "1.2.3.4", "40.39.10.9"} {
		for i := range len(s) + 1 {
			for b := range 256 {
				checkInverse(t, s[:i]+string([]byte{byte(b)})+s[i:])
				if i < len(s) {
					checkInverse(t, s[:i]+string([]byte{byte(b)})+s[i+1:])
				}
			}
			if i < len(s) {
				checkInverse(t, s[:i]+s[i+1:])
			}
		}
	}
}

func checkInverse(t *testing.T, s string) {
	t.Helper()
	v, ok := impl.ReadVec(s)
	if !ok {
		wantNoVec(t, s)
		return
	}
	if !impl.VecOk(v) || impl.VecText(v) != s {
		t.Errorf("ReadVec(%q) = %v, true; VecText of it is %q", s, v, impl.VecText(v))
	}
}

func TestVecArgumentsAreKept(t *testing.T) {
	behindA, behindB := []int64{1, 5, 0, 2, 98, 99}, []int64{3, 4, 0, 2, 96, 97}
	a, b := behindA[:4], behindB[:4]
	for _, call := range []func() []int64{
		func() []int64 { return impl.VecMax(a, b) },
		func() []int64 { return impl.VecMin(a, b) },
		func() []int64 { return impl.VecMax(a, a) },
		func() []int64 { return impl.VecMin(b, b) },
	} {
		first := call()
		want := slices.Clone(first)
		for i := range first {
			first[i] = -7
		}
		first = append(first, -7, -7)
		if !slices.Equal(behindA, []int64{1, 5, 0, 2, 98, 99}) || !slices.Equal(behindB, []int64{3, 4, 0, 2, 96, 97}) {
			t.Fatalf("the arguments are now %v, %v, after %v", behindA, behindB, first)
		}
		if again := call(); !slices.Equal(again, want) {
			t.Errorf("equal arguments: %v, then %v", want, again)
		}
	}
	impl.VecWithin(a, b)
	impl.VecText(a)
	impl.VecOk(b)
	if !slices.Equal(behindA, []int64{1, 5, 0, 2, 98, 99}) || !slices.Equal(behindB, []int64{3, 4, 0, 2, 96, 97}) {
		t.Errorf("the arguments are now %v, %v", behindA, behindB)
	}
	v, _ := impl.ReadVec("1.2.3.4")
	v[0] = 9
	if again, ok := impl.ReadVec("1.2.3.4"); !ok || again[0] != 1 {
		t.Errorf("ReadVec(\"1.2.3.4\") = %v, %t", again, ok)
	}
}
