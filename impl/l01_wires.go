package impl

import (
	"errors"
	"strings"
)

const MaxText = 4000

const (
	maxSummed  = 20000
	maxSealed  = 16000
	sealLength = 4
	numberBits = 63
	// The polynomial of CRC-32 with its bits reversed, because zip's CRC-32 takes the least significant bit of a byte first.
	sumPolynomial = 0xedb88320
)

var errNotEncoded = errors.New("not an encoding")

// wireReader reads encodings one after another. Its methods panic where there is none,
// so that a sequence of reads needs no check after each one; the exported functions recover.
type wireReader struct {
	text string
	at   int
}

func (r *wireReader) nextByte() byte {
	if r.at == len(r.text) {
		panic(errNotEncoded)
	}
	b := r.text[r.at]
	r.at++
	return b
}

func (r *wireReader) number() int64 {
	n := int64(0)
	for shift := 0; shift < numberBits; shift += 7 {
		b := r.nextByte()
		n |= int64(b&127) << shift
		if b >= 128 {
			continue
		}
		if b == 0 && shift > 0 {
			// A final zero adds nothing to the number: there is a shorter encoding.
			panic(errNotEncoded)
		}
		return n
	}
	panic(errNotEncoded)
}

func (r *wireReader) word() string {
	n := r.number()
	if n > MaxText || n > int64(len(r.text)-r.at) {
		panic(errNotEncoded)
	}
	start := r.at
	r.at += int(n)
	// A substring would share the memory of the argument.
	return strings.Clone(r.text[start:r.at])
}

func VarOf(n int64) string {
	if n < 0 {
		return ""
	}
	var out []byte
	for n >= 128 {
		out = append(out, byte(n&127)+128)
		n >>= 7
	}
	return string(append(out, byte(n)))
}

func ReadVar(s string) (n int64, length int64, ok bool) {
	defer func() {
		if recover() != nil {
			n, length, ok = 0, 0, false
		}
	}()
	r := wireReader{text: s}
	n = r.number()
	return n, int64(r.at), true
}

func TextOf(s string) string {
	if len(s) > MaxText {
		return ""
	}
	return VarOf(int64(len(s))) + s
}

func ReadText(s string) (text string, length int64, ok bool) {
	defer func() {
		if recover() != nil {
			text, length, ok = "", 0, false
		}
	}()
	r := wireReader{text: s}
	text = r.word()
	return text, int64(r.at), true
}

// sumTable has an entry for each half of a byte, not for each byte: no state is kept
// between calls, so every checksum builds the table anew, and a short one costs less.
func sumTable() [16]uint32 {
	var table [16]uint32
	for i := range table {
		entry := uint32(i)
		for range 4 {
			low := entry & 1
			entry >>= 1
			if low == 1 {
				entry ^= sumPolynomial
			}
		}
		table[i] = entry
	}
	return table
}

// checksum has no limit of its own: the limits of its callers differ.
func checksum(s string) uint32 {
	table := sumTable()
	sum := ^uint32(0)
	for i := range len(s) {
		sum ^= uint32(s[i])
		sum = table[sum&15] ^ sum>>4
		sum = table[sum&15] ^ sum>>4
	}
	return ^sum
}

func SumOf(s string) int64 {
	if len(s) > maxSummed {
		return -1
	}
	return int64(checksum(s))
}

func sealOf(s string) string {
	sum := checksum(s)
	return string([]byte{byte(sum >> 24), byte(sum >> 16), byte(sum >> 8), byte(sum)})
}

func Sealed(s string) string {
	if len(s) > maxSealed {
		return ""
	}
	return s + sealOf(s)
}

func Unsealed(s string) (string, bool) {
	n := len(s) - sealLength
	if n < 0 || n > maxSealed || sealOf(s[:n]) != s[n:] {
		return "", false
	}
	return strings.Clone(s[:n]), true
}
