// Package wire is layer 1: numbers and texts as bytes, and back. See shared/doc/01-wire.md.
package wire

import (
	"math"
	"strings"
)

const (
	digitBits = 7
	digitMask = 1<<digitBits - 1
	more      = 1 << digitBits // added to each digit that has another one behind it
	maxDigits = 10             // of the greatest uint64
)

// Reader reads what was put.
type Reader struct {
	left string
	lost bool
}

// PutNum answers s, and behind it the bytes of n.
func PutNum(s string, n uint64) string {
	var digits [maxDigits]byte
	at := len(digits) - 1
	digits[at] = byte(n & digitMask)
	for n >>= digitBits; n > 0; n >>= digitBits {
		at--
		digits[at] = byte(n&digitMask) + more
	}
	row := make([]byte, len(digits)-at)
	copy(row, digits[at:])
	return s + string(row)
}

// PutText answers s, and behind it the bytes of t.
func PutText(s, t string) string {
	return s + PutNum("", uint64(len(t))) + t
}

// NewReader answers a reader of s.
func NewReader(s string) *Reader {
	return &Reader{left: s}
}

// Num takes the number that what is left begins with.
func (r *Reader) Num() uint64 {
	var n uint64
	r.take(func(left string) (behind string, ok bool) {
		n, behind, ok = cutNum(left)
		return behind, ok
	})
	return n
}

// Text takes the text that what is left begins with.
func (r *Reader) Text() string {
	var t string
	r.take(func(left string) (behind string, ok bool) {
		t, behind, ok = cutText(left)
		return behind, ok
	})
	// A copy, so that who keeps a short text does not keep all the bytes it stood in.
	return strings.Clone(t)
}

// OK tells whether the reader is not lost.
func (r *Reader) OK() bool {
	return r != nil && !r.lost
}

// End tells whether the reader is not lost, and has nothing left.
func (r *Reader) End() bool {
	return r.OK() && r.left == ""
}

// take hands what is left to cut, which tells what is behind what it takes, or that the reader is lost.
func (r *Reader) take(cut func(left string) (behind string, ok bool)) {
	if !r.OK() {
		return
	}
	behind, ok := cut(r.left)
	*r = Reader{left: behind, lost: !ok}
}

// cutNum answers the number that s begins with, and what is behind its bytes.
func cutNum(s string) (n uint64, behind string, ok bool) {
	if s != "" && s[0] == more { // a 0 ahead: a number has one row of bytes alone
		return 0, "", false
	}
	for i := range len(s) {
		if n > math.MaxUint64>>digitBits {
			return 0, "", false
		}
		n = n<<digitBits | uint64(s[i]&digitMask)
		if s[i] < more {
			return n, s[i+1:], true
		}
	}
	return 0, "", false
}

// cutText answers the text that s begins with, and what is behind its bytes.
func cutText(s string) (t, behind string, ok bool) {
	size, rest, ok := cutNum(s)
	if !ok || size > uint64(len(rest)) {
		return "", "", false
	}
	return rest[:size], rest[size:], true
}
