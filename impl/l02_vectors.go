package impl

import (
	"slices"
	"strconv"
	"strings"
)

const (
	Devices = 4
	MaxSeq  = 40
)

const maxDigits = 9

// vector is an array, so that a copy of it shares no memory with the list it was made from.
type vector [Devices]int64

func vectorOf(v []int64) (vector, bool) {
	if !VecOk(v) {
		return vector{}, false
	}
	return vector(v), true
}

func vectorsOf(a []int64, b []int64) (vector, vector, bool) {
	x, okX := vectorOf(a)
	y, okY := vectorOf(b)
	if !okX || !okY {
		return vector{}, vector{}, false
	}
	return x, y, true
}

func (v vector) list() []int64 {
	return slices.Clone(v[:])
}

func (v *vector) raise(other *vector) {
	for i, n := range other {
		v[i] = max(v[i], n)
	}
}

func (v *vector) lower(other *vector) {
	for i, n := range other {
		v[i] = min(v[i], n)
	}
}

func VecOk(v []int64) bool {
	if len(v) != Devices {
		return false
	}
	for _, n := range v {
		if n < 0 || n > MaxSeq {
			return false
		}
	}
	return true
}

func VecMax(a []int64, b []int64) []int64 {
	x, y, ok := vectorsOf(a, b)
	if !ok {
		return nil
	}
	x.raise(&y)
	return x.list()
}

func VecMin(a []int64, b []int64) []int64 {
	x, y, ok := vectorsOf(a, b)
	if !ok {
		return nil
	}
	x.lower(&y)
	return x.list()
}

func VecWithin(a []int64, b []int64) bool {
	x, y, ok := vectorsOf(a, b)
	if !ok {
		return false
	}
	for i := range x {
		if x[i] > y[i] {
			return false
		}
	}
	return true
}

func VecText(v []int64) string {
	x, ok := vectorOf(v)
	if !ok {
		return ""
	}
	var words [Devices]string
	for i, n := range x {
		words[i] = strconv.FormatInt(n, 10)
	}
	return strings.Join(words[:], ".")
}

func ReadVec(s string) ([]int64, bool) {
	words := strings.Split(s, ".")
	if len(words) != Devices {
		return nil, false
	}
	var x vector
	for i, word := range words {
		n, ok := readDecimal(word)
		if !ok {
			return nil, false
		}
		x[i] = n
	}
	if !VecOk(x[:]) {
		return nil, false
	}
	return x.list(), true
}

// readDecimal reads no negative numbers: no text that the program accepts contains one.
func readDecimal(s string) (int64, bool) {
	if s == "" || len(s) > maxDigits || s[0] == '0' && s != "0" {
		return 0, false
	}
	n := int64(0)
	for i := range len(s) {
		if s[i] < '0' || s[i] > '9' {
			return 0, false
		}
		n = n*10 + int64(s[i]-'0')
	}
	return n, true
}
