package name_test

import (
	"crypto/sha256"
	"encoding/base32"
	"math/big"
	"slices"
	"strings"
	"testing"

	"whisk/api"
	"whisk/name"
)

const (
	letters   = "0123456789abcdfghijklmnpqrsvwxyz"
	nameBytes = "abcdefghijklmnopqrstuvwxyzABCDEFGHIJKLMNOPQRSTUVWXYZ0123456789+-._"
)

// noughts is the chapter's 0..0.
var noughts = strings.Repeat("0", 32)

// hashes are some of all kinds.
var hashes = []string{
	noughts,
	strings.Repeat("z", 32),
	letters,
	"wfqc8hlqzhf196pvyk49jvxr4hkswhg4",
}

// noHashes are none.
var noHashes = []string{
	"",
	"0",
	"-",
	noughts[1:],
	noughts + "0",
	noughts + noughts,
	strings.Repeat("-", 32),
	strings.Repeat(" ", 32),
	strings.Repeat("\x00", 32),
	strings.Repeat("\xff", 32),
	strings.Repeat("e", 32),
	"WFQC8HLQZHF196PVYK49JVXR4HKSWHG4",
	strings.Repeat("\u0660", 16), // digits elsewhere, 32 bytes
	strings.Repeat("\uff10", 32), // 32 runes, 96 bytes
}

// names are some that may be.
var names = []string{
	"a", "Z", "0", "9", "+", "-", "_",
	"a.b", "a-b", "a.", "a..", "-.", "--", "---", "-a", "a-", "_.", "+.",
	"pkg-1.0", "gcc-c++_13.2", "etou", "ETOU",
	strings.Repeat("a", 19),
	strings.Repeat("a", 20),
	strings.Repeat("-", 20),
	"a" + strings.Repeat(".", 19),
}

// noNames are none, though they have at most 20 bytes.
var noNames = []string{
	"", ".", "..", ".a", "...", ".-",
	" ", "a b", " a", "a ", "a\n", "\n", "a\x00", "\x00", "a/b", "/", "a\\b", "a:b", "a*", "a~", "a,b", "a=b", "a@b",
	"\u00e4", "a\u00e4", "\x80", "a\xff", "\u0430", "\uff41",
	"." + strings.Repeat("a", 19),
	strings.Repeat("a", 19) + " ",
	strings.Repeat("a", 19) + "/",
	strings.Repeat(" ", 20),
}

// longNames have more than 20 bytes, whatever else they are.
var longNames = []string{
	strings.Repeat("a", 21),
	strings.Repeat("a", 22),
	strings.Repeat("-", 21),
	"." + strings.Repeat("a", 20),
	strings.Repeat("a", 20) + " ",
	strings.Repeat(" ", 21),
	strings.Repeat(".", 21),
	strings.Repeat("\x00", 21),
	strings.Repeat("\u00e4", 11), // 22 bytes, though 11 runes
	strings.Repeat("a", 56),
	strings.Repeat("a", 100000),
}

// some answers so many bytes, of all values, that hang on the seed.
func some(size int, seed uint32) string {
	b := make([]byte, size)
	for i := range b {
		seed = seed*1664525 + 1013904223
		b[i] = byte(seed >> 24)
	}
	return string(b)
}

// put answers s with the byte at this place for its own.
func put(s string, at int, b byte) string {
	row := []byte(s)
	row[at] = b
	return string(row)
}

// isSplit fails the test unless name.Split of path is this.
func isSplit(t *testing.T, path, hash, of string, want api.Errno) {
	t.Helper()
	h, n, e := name.Split(path)
	if h != hash || n != of || e != want {
		t.Errorf("Split(%.60q) = %q, %q, %v; not %q, %q, %v", path, h, n, e, hash, of, want)
	}
}

// isPath fails the test unless name.Path of hash and of is this.
func isPath(t *testing.T, hash, of, path string, want api.Errno) {
	t.Helper()
	if p, e := name.Path(hash, of); p != path || e != want {
		t.Errorf("Path(%.60q, %.60q) = %q, %v; not %q, %v", hash, of, p, e, path, want)
	}
}

// isChecked fails the test unless name.Check of s is this.
func isChecked(t *testing.T, s string, want api.Errno) {
	t.Helper()
	if e := name.Check(s); e != want {
		t.Errorf("Check(%.60q) = %v, not %v", s, e, want)
	}
}

// P3.1

func TestKnown(t *testing.T) {
	for _, row := range []struct{ s, hash string }{
		{"", "wfqc8hlqzhf196pvyk49jvxr4hkswhg4"},
		{"abc", "p9w1dgwg077ylha183g5vbi24fq06qd3"},
		{"\x00", "dqs0p77zndx9i7558kkbny0a5iw9079z"},
		{"add:", "4x7xygzvsxv7mz6hmkgyq7mz3a4x2db2"},
		{strings.Repeat("a", 1000000), "rp3nwp4r2kxr50d1qzi89mryczqq16j8"},
	} {
		if got := name.Hash(row.s); got != row.hash {
			t.Errorf("Hash(%.20q) = %s, not %s", row.s, got, row.hash)
		}
	}
}

// The letters are what the library makes of the bits, and the digits of one great number.
func TestHash(t *testing.T) {
	coding := base32.NewEncoding(letters)
	seen := map[byte]int{}
	for size := range 500 {
		s := some(size, uint32(size))
		sum := sha256.Sum256([]byte(s))
		got := name.Hash(s)
		if want := coding.EncodeToString(sum[:20]); got != want {
			t.Errorf("Hash of %d bytes = %s, not %s", size, got, want)
		}
		left := new(big.Int).SetBytes(sum[:20])
		for at := len(got) - 1; at >= 0; at-- {
			digit := new(big.Int)
			left.DivMod(left, big.NewInt(32), digit)
			if want := letters[digit.Int64()]; got[at] != want {
				t.Errorf("Hash of %d bytes: %c at %d, not %c", size, got[at], at, want)
			}
			seen[got[at]]++
		}
	}
	if len(seen) != 32 {
		t.Errorf("%d letters were told, not all 32", len(seen))
	}
}

// P3.2

func TestCheck(t *testing.T) {
	for _, s := range names {
		isChecked(t, s, api.OK)
	}
	for _, s := range noNames {
		isChecked(t, s, api.ErrArg)
	}
	for _, s := range longNames {
		isChecked(t, s, api.ErrLong)
	}
}

func TestCheckSizes(t *testing.T) {
	for size := range 60 {
		want := api.OK
		if size == 0 {
			want = api.ErrArg
		}
		if size > 20 {
			want = api.ErrLong
		}
		isChecked(t, strings.Repeat("a", size), want)
	}
}

// Which bytes a name may have, at its begin, within it, at its end, and alone.
func TestCheckEachByte(t *testing.T) {
	for value := range 256 {
		b := byte(value)
		within, first := api.ErrArg, api.ErrArg
		if strings.IndexByte(nameBytes, b) >= 0 {
			within = api.OK
			if b != '.' {
				first = api.OK
			}
		}
		isChecked(t, put("a", 0, b), first)
		isChecked(t, put("abc", 0, b), first)
		isChecked(t, put("abc", 1, b), within)
		isChecked(t, put("abc", 2, b), within)
		isChecked(t, put(strings.Repeat("a", 20), 19, b), within)
		isChecked(t, put(strings.Repeat("a", 21), 20, b), api.ErrLong)
	}
}

func TestPath(t *testing.T) {
	isPath(t, noughts, "a.b", noughts+"-a.b", api.OK)
	for _, hash := range hashes {
		for _, s := range names {
			isPath(t, hash, s, hash+"-"+s, api.OK)
		}
		for _, s := range noNames {
			isPath(t, hash, s, "", api.ErrArg)
		}
		for _, s := range longNames {
			isPath(t, hash, s, "", api.ErrLong)
		}
	}
}

// The hash's error is ahead of the name's.
func TestPathOfNoHash(t *testing.T) {
	for _, hash := range noHashes {
		isPath(t, hash, "a", "", api.ErrArg)
		isPath(t, hash, "", "", api.ErrArg)
		isPath(t, hash, ".a", "", api.ErrArg)
		for _, s := range longNames {
			isPath(t, hash, s, "", api.ErrArg)
		}
	}
}

// Which bytes a hash may have, at each of its places.
func TestHashEachByte(t *testing.T) {
	for at := range 32 {
		for value := range 256 {
			hash := put(letters, at, byte(value))
			path := hash + "-a"
			if strings.IndexByte(letters, byte(value)) >= 0 {
				isPath(t, hash, "a", path, api.OK)
				isSplit(t, path, hash, "a", api.OK)
			} else {
				isPath(t, hash, "a", "", api.ErrArg)
				isSplit(t, path, "", "", api.ErrForm)
			}
		}
	}
}

func TestSplit(t *testing.T) {
	isSplit(t, noughts+"-a-b", noughts, "a-b", api.OK)
	for _, hash := range hashes {
		for _, s := range names {
			isSplit(t, hash+"-"+s, hash, s, api.OK)
		}
		for _, s := range slices.Concat(noNames, longNames) {
			isSplit(t, hash+"-"+s, "", "", api.ErrForm)
		}
		for size := range len(hash) + 1 {
			isSplit(t, hash[:size], "", "", api.ErrForm)
			if size < len(hash) {
				isSplit(t, hash[:size]+"-a", "", "", api.ErrForm)
			}
		}
	}
	for _, hash := range noHashes {
		isSplit(t, hash, "", "", api.ErrForm)
		isSplit(t, hash+"-", "", "", api.ErrForm)
		isSplit(t, hash+"-a", "", "", api.ErrForm)
	}
	for _, path := range []string{noughts + "a", noughts + "0-a", noughts + "aa", " " + noughts + "-a", "/store/" + noughts + "-a", noughts + "-a/b", noughts + "-a\n"} {
		isSplit(t, path, "", "", api.ErrForm)
	}
}

// Nothing but a dash stands between a path's parts.
func TestSplitEachByte(t *testing.T) {
	for value := range 256 {
		path := put(noughts+"-a", 32, byte(value))
		if value == '-' {
			isSplit(t, path, noughts, "a", api.OK)
		} else {
			isSplit(t, path, "", "", api.ErrForm)
		}
	}
}

// P3.3

func TestThereAndBack(t *testing.T) {
	for size := range 300 {
		hash := name.Hash(some(size, 3))
		for _, s := range names {
			path, e := name.Path(hash, s)
			if e != api.OK {
				t.Fatalf("Path(%q, %q): %v", hash, s, e)
			}
			isSplit(t, path, hash, s, api.OK)
		}
	}
}

// Whatever the bytes: what is split comes back from its parts, and what is put together from its path.
func TestBackOfAnyBytes(t *testing.T) {
	bytes := "0zetA-._+ /\x00\xff"
	taken := 0
	for seed := range 20000 {
		row := []byte(noughts + "-" + some(seed%23, uint32(seed)))
		for i := 33; i < len(row); i++ {
			row[i] = bytes[int(row[i])%len(bytes)]
		}
		path := put(string(row), seed%33, bytes[seed/33%len(bytes)])
		hash, s, e := name.Split(path)
		if e != api.OK {
			continue
		}
		taken++
		isPath(t, hash, s, path, api.OK)
	}
	if taken < 100 {
		t.Errorf("%d paths alone were taken", taken)
	}
}

func TestAlikeBytes(t *testing.T) {
	seen := map[string]int{}
	for size := range 500 {
		s := some(size, 5)
		hash := name.Hash(s)
		name.Hash(s + "x") // nothing of another call is kept
		within := ("x" + s + "x")[1 : size+1]
		if name.Hash(s) != hash || name.Hash(strings.Clone(s)) != hash || name.Hash(within) != hash {
			t.Errorf("%d bytes: not always the same hash", size)
		}
		if other, ok := seen[hash]; ok {
			t.Errorf("%d and %d bytes: the same hash", other, size)
		}
		seen[hash] = size
	}
}
