package sha_test

import (
	"crypto/sha256"
	"encoding/hex"
	"strings"
	"testing"

	"whisk/sha"
)

// known are sums that others tell: the chapter's examples, and FIPS 180's.
var known = []struct{ name, s, sum string }{
	{"nothing", "", "e3b0c442 98fc1c14 9afbf4c8 996fb924 27ae41e4 649b934c a495991b 7852b855"},
	{"abc", "abc", "ba7816bf 8f01cfea 414140de 5dae2223 b00361a3 96177a9c b410ff61 f20015ad"},
	{
		"two blocks", "abcdbcdecdefdefgefghfghighijhijkijkljklmklmnlmnomnopnopq",
		"248d6a61 d20638b8 e5c02693 0c3e6039 a33ce459 64ff2167 f6ecedd4 19db06c1",
	},
	{
		"a million a", strings.Repeat("a", 1000000),
		"cdc76e5c 9914fb92 81a1c7e2 84d73e67 f1809a48 a497200e 046d39cc c7112cd0",
	},
}

// some answers so many bytes, of all values, that hang on the seed.
func some(size int, seed uint32) string {
	b := make([]byte, size)
	for i := range b {
		seed = seed*1664525 + 1013904223
		b[i] = byte(seed >> 24)
	}
	return string(b)
}

// isSum fails the test unless sha.Sum of s is what the library's is.
func isSum(t *testing.T, what, s string) {
	t.Helper()
	want := sha256.Sum256([]byte(s))
	if got := sha.Sum(s); got != string(want[:]) {
		t.Errorf("%s, %d bytes: %x, not %x", what, len(s), got, want)
	}
}

// P2.1

func TestKnown(t *testing.T) {
	for _, row := range known {
		want := strings.ReplaceAll(row.sum, " ", "")
		if got := hex.EncodeToString([]byte(sha.Sum(row.s))); got != want {
			t.Errorf("%s: %s, not %s", row.name, got, want)
		}
	}
}

// What is padded, and how, hangs on the size alone: all that are less than five blocks.
func TestSizes(t *testing.T) {
	for size := range 5*64 + 1 {
		isSum(t, "noughts", strings.Repeat("\x00", size))
		isSum(t, "80", strings.Repeat("\x80", size))
		isSum(t, "ff", strings.Repeat("\xff", size))
		isSum(t, "some", some(size, uint32(size)))
	}
}

func TestGreatSizes(t *testing.T) {
	for shift := 10; shift <= 20; shift++ {
		for _, more := range []int{-65, -64, -9, -8, -1, 0, 1, 55, 56, 63, 64} {
			size := 1<<shift + more
			isSum(t, "some", some(size, uint32(size)))
		}
	}
}

func TestEachByte(t *testing.T) {
	for value := range 256 {
		for _, size := range []int{1, 55, 56, 64} {
			isSum(t, "one value", strings.Repeat(string([]byte{byte(value)}), size))
		}
	}
}

// Each bit of a block counts, and at its own place.
func TestEachBit(t *testing.T) {
	for bit := range 2 * 64 * 8 {
		b := make([]byte, 2*64)
		b[bit/8] = 1 << (bit % 8)
		isSum(t, "one bit", string(b))
	}
}

// Bytes that are padded already, and runes, are bytes like others.
func TestBytesAreBytes(t *testing.T) {
	padded := "abc\x80" + strings.Repeat("\x00", 59) + "\x18"
	for _, s := range []string{padded, padded[:56], "abc\x80", "abc\x00", "\u00e4\u20ac\U0001f600", "\xc3", "a\r\n", " "} {
		isSum(t, "a text", s)
	}
	if sha.Sum(padded) == sha.Sum("abc") || sha.Sum("abc\x00") == sha.Sum("abc") {
		t.Error("the padding is taken for the bytes")
	}
}

// P2.2

func TestSize(t *testing.T) {
	for size := range 1000 {
		if got := len(sha.Sum(some(size, 7))); got != 32 {
			t.Errorf("of %d bytes: %d", size, got)
		}
	}
}

func TestSameBytes(t *testing.T) {
	for size := range 300 {
		s := some(size, uint32(size)+1)
		want := sha.Sum(s)
		sha.Sum(s + "x") // nothing of another call is kept
		within := ("x" + s + "x")[1 : size+1]
		if sha.Sum(s) != want || sha.Sum(strings.Clone(s)) != want || sha.Sum(within) != want {
			t.Errorf("%d bytes: not always the same sum", size)
		}
	}
}

func TestOtherBytes(t *testing.T) {
	seen := map[string]string{}
	for size := range 200 {
		for _, s := range []string{strings.Repeat("\x00", size), some(size, 1) + "a", some(size, 1) + "b"} {
			sum := sha.Sum(s)
			if other, ok := seen[sum]; ok && other != s {
				t.Errorf("%x and %x: the same sum", other, s)
			}
			seen[sum] = s
		}
	}
}
