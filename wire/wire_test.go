package wire_test

import (
	"math"
	"strings"
	"testing"

	"whisk/wire"
)

// numbers and their bytes, as the chapter's examples and its edges have them.
var numbers = []struct {
	n     uint64
	bytes string
}{
	{0, "\x00"},
	{1, "\x01"},
	{127, "\x7f"},
	{128, "\x81\x00"},
	{129, "\x81\x01"},
	{255, "\x81\x7f"},
	{256, "\x82\x00"},
	{300, "\x82\x2c"},
	{16383, "\xff\x7f"},
	{16384, "\x81\x80\x00"},
	{1<<21 - 1, "\xff\xff\x7f"},
	{1 << 21, "\x81\x80\x80\x00"},
	{1<<32 - 1, "\x8f\xff\xff\xff\x7f"},
	{1 << 32, "\x90\x80\x80\x80\x00"},
	{1<<63 - 1, "\xff\xff\xff\xff\xff\xff\xff\xff\x7f"},
	{1 << 63, "\x81\x80\x80\x80\x80\x80\x80\x80\x80\x00"},
	{math.MaxUint64, "\x81\xff\xff\xff\xff\xff\xff\xff\xff\x7f"},
}

// texts and their bytes.
var texts = []struct{ t, bytes string }{
	{"", "\x00"},
	{"ab", "\x02ab"},
	{"\x00", "\x01\x00"},
	{"\x80\xff\xfe", "\x03\x80\xff\xfe"},
	{"\x02ab", "\x03\x02ab"},
	{strings.Repeat("x", 127), "\x7f" + strings.Repeat("x", 127)},
	{strings.Repeat("x", 128), "\x81\x00" + strings.Repeat("x", 128)},
	{strings.Repeat("x", 300), "\x82\x2c" + strings.Repeat("x", 300)},
	{strings.Repeat("x", 16384), "\x81\x80\x00" + strings.Repeat("x", 16384)},
}

// what may stand ahead of, or behind, what is put or read.
var others = []string{"", "\x00", "a", "\x80", "\xff", "\x7fab\x81\x00", "\x02ab"}

// noNumbers begin with no number's bytes.
var noNumbers = []string{
	"",
	"\x80",
	"\x81",
	"\xff",
	"\xff\xff",
	"\x80\x00",
	"\x80\x05",
	"\x80\x7f",
	"\x80\x80\x00",
	"\x80\x81\x00",
	"\x82\x80\x80\x80\x80\x80\x80\x80\x80\x00", // 2^64
	"\x83\x80\x80\x80\x80\x80\x80\x80\x80\x00",
	"\x82\xff\xff\xff\xff\xff\xff\xff\xff\x7f",
	"\xff\xff\xff\xff\xff\xff\xff\xff\xff\x7f",
	"\x81\x80\x80\x80\x80\x80\x80\x80\x80\x80",
	"\x81\x80\x80\x80\x80\x80\x80\x80\x80\x80\x00", // 2^70
	"\x81\xff\xff\xff\xff\xff\xff\xff\xff\xff\x00",
	"\x82\x80\x80\x80\x80\x80\x80\x80\x80\x80\x05",
	"\x80\x81\x80\x80\x80\x80\x80\x80\x80\x80\x00",
	strings.Repeat("\x80", 40) + "\x01",
	strings.Repeat("\x81", 40) + "\x01",
	strings.Repeat("\xff", 1000),
}

// isLost fails the test unless r is lost, in all that it answers, and stays so.
func isLost(t *testing.T, what string, r *wire.Reader) {
	t.Helper()
	for range 2 {
		if r.OK() || r.End() {
			t.Errorf("%s: not lost", what)
		}
		if n := r.Num(); n != 0 {
			t.Errorf("%s: lost, but Num is %d", what, n)
		}
		if s := r.Text(); s != "" {
			t.Errorf("%s: lost, but Text is %q", what, s)
		}
	}
	if r.OK() || r.End() {
		t.Errorf("%s: no longer lost", what)
	}
}

// P1.1

func TestPutNum(t *testing.T) {
	for _, row := range numbers {
		for _, s := range others {
			if got := wire.PutNum(s, row.n); got != s+row.bytes {
				t.Errorf("PutNum(%x, %d) = %x", s, row.n, got)
			}
		}
	}
}

func TestPutText(t *testing.T) {
	for _, row := range texts {
		for _, s := range others {
			if got := wire.PutText(s, row.t); got != s+row.bytes {
				t.Errorf("PutText(%x, %.20x) = %.40x", s, row.t, got)
			}
		}
	}
}

// P1.2

func TestNum(t *testing.T) {
	for _, row := range numbers {
		for _, behind := range others {
			r := wire.NewReader(row.bytes + behind)
			if n := r.Num(); n != row.n || !r.OK() || r.End() != (behind == "") {
				t.Errorf("Num of %x and %x: %d, OK %v, End %v", row.bytes, behind, n, r.OK(), r.End())
			}
		}
	}
}

func TestText(t *testing.T) {
	for _, row := range texts {
		for _, behind := range others {
			r := wire.NewReader(row.bytes + behind)
			if s := r.Text(); s != row.t || !r.OK() || r.End() != (behind == "") {
				t.Errorf("Text of %.40x and %x: %.40x, OK %v, End %v", row.bytes, behind, s, r.OK(), r.End())
			}
		}
	}
}

func TestNoNumber(t *testing.T) {
	for _, s := range noNumbers {
		r := wire.NewReader(s)
		if n := r.Num(); n != 0 {
			t.Errorf("Num of %.40x: %d", s, n)
		}
		isLost(t, "Num", r)
	}
}

// A reader that is lost has nothing left, though numbers and texts stand behind what was wrong.
func TestLostHasNothingLeft(t *testing.T) {
	for _, s := range []string{"\x80\x05\x01a", "\x82\x80\x80\x80\x80\x80\x80\x80\x80\x00\x05\x01a"} {
		r := wire.NewReader(s)
		r.Num()
		isLost(t, "Num", r)
	}
	for _, s := range []string{"\x80\x01a\x05", "\x05\x01a\x01"} {
		r := wire.NewReader(s)
		r.Text()
		isLost(t, "Text", r)
	}
	r := wire.NewReader("\x05\x80\x05\x01a")
	if n := r.Num(); n != 5 || !r.OK() {
		t.Errorf("the number ahead: %d, OK %v", n, r.OK())
	}
	r.Num()
	isLost(t, "a number ahead", r)
}

func TestNoText(t *testing.T) {
	rows := []string{
		"\x01",
		"\x03ab",
		"\x05abcd",
		"\x80\x01a",
		"\x80\x00",
		"\x81\x00" + strings.Repeat("x", 127),
		"\x90\x80\x80\x80\x02ab",                 // 2^32 + 2 bytes
		"\x90\x80\x80\x80\x00ab",                 // 2^32
		"\xff\xff\xff\xff\xff\xff\xff\xff\x7fab", // 2^63 - 1
		"\x81\x80\x80\x80\x80\x80\x80\x80\x80\x00ab", // 2^63
		"\x81\x80\x80\x80\x80\x80\x80\x80\x80\x02ab", // 2^63 + 2
		"\x81\xff\xff\xff\xff\xff\xff\xff\xff\x7fab", // 2^64 - 1
		"\x81\xff\xff\xff\xff\xff\xff\xff\xff\x7e",   // 2^64 - 2
	}
	for _, s := range append(rows, noNumbers...) {
		r := wire.NewReader(s)
		if got := r.Text(); got != "" {
			t.Errorf("Text of %.40x: %q", s, got)
		}
		isLost(t, "Text", r)
	}
}

func TestEndAndOK(t *testing.T) {
	r := wire.NewReader("")
	if !r.OK() || !r.End() || !r.End() || !r.OK() {
		t.Error("a reader of nothing is lost, or not at its end")
	}
	r.Num()
	isLost(t, "Num of nothing", r)
	r = wire.NewReader("")
	r.Text()
	isLost(t, "Text of nothing", r)
	r = wire.NewReader("\x00")
	if !r.OK() || r.End() || !r.OK() || r.End() {
		t.Error("a reader of one byte is lost, or at its end")
	}
	if r.Text() != "" || !r.End() {
		t.Error("asking took something")
	}
	if r.Text() != "" || r.OK() {
		t.Error("behind the end there was another text")
	}
}

func TestOneBehindTheOther(t *testing.T) {
	s := wire.PutNum("", 300)
	s = wire.PutText(s, "ab")
	s = wire.PutText(s, "")
	s = wire.PutNum(s, 0)
	s = wire.PutText(s, "\x81")
	s = wire.PutNum(s, math.MaxUint64)
	r, beside := wire.NewReader(s), wire.NewReader(s)
	if r.Num() != 300 || r.Text() != "ab" || r.Text() != "" || r.Num() != 0 || r.Text() != "\x81" {
		t.Error("what was put did not come back, in order")
	}
	if r.End() || r.Num() != math.MaxUint64 || !r.End() {
		t.Error("the last number, or the end behind it")
	}
	r.Num()
	isLost(t, "behind the end", r)
	if beside.Num() != 300 || beside.Text() != "ab" || !beside.OK() {
		t.Error("a reader hangs on another one of the same bytes")
	}
}

func TestNoReader(t *testing.T) {
	isLost(t, "none", nil)
	if wire.NewReader("") == nil || wire.NewReader("\x80") == nil {
		t.Error("NewReader answers none")
	}
}

// P1.3

func TestHowManyBytes(t *testing.T) {
	for bits := range 65 {
		least, most := uint64(0), uint64(0)
		if bits > 0 {
			least, most = 1<<(bits-1), 1<<(bits-1)|(1<<(bits-1)-1)
		}
		want := max(1, (bits+6)/7)
		for _, n := range []uint64{least, most} {
			if got := len(wire.PutNum("", n)); got != want {
				t.Errorf("%d has %d bytes, not %d", n, got, want)
			}
		}
	}
}

func TestOrder(t *testing.T) {
	last := wire.PutNum("", 0)
	for n := uint64(1); n < 1<<15; n++ {
		s := wire.PutNum("", n)
		if len(s) < len(last) || len(s) == len(last) && s <= last {
			t.Fatalf("%d: %x behind %x", n, s, last)
		}
		last = s
	}
	for shift := range 64 {
		n := uint64(1) << shift
		for _, m := range []uint64{n, n + n/2, n + n/3} {
			a, b := wire.PutNum("", m), wire.PutNum("", m+1)
			if len(a) > len(b) || len(a) == len(b) && a >= b {
				t.Errorf("%d: %x, then %x", m, a, b)
			}
		}
	}
}

// Of all rows of up to two bytes, and what may stand behind them, just those that PutNum lays are taken.
func TestOneRowEach(t *testing.T) {
	laid := map[string]uint64{}
	for n := range uint64(1 << 14) {
		laid[wire.PutNum("", n)] = n
	}
	if len(laid) != 1<<14 {
		t.Fatalf("%d rows", len(laid))
	}
	for first := range 256 {
		for second := range 256 {
			s := string([]byte{byte(first), byte(second)})
			want, size := laid[s[:1]], 1
			if _, ok := laid[s[:1]]; !ok {
				want, size = laid[s], 2
				if _, ok := laid[s]; !ok {
					size = 0
				}
			}
			r := wire.NewReader(s)
			if n := r.Num(); n != want || r.OK() != (size > 0) || r.End() != (size == 2) {
				t.Errorf("Num of %x: %d, OK %v, End %v", s, n, r.OK(), r.End())
			}
		}
	}
}

func TestTextsInTexts(t *testing.T) {
	inner := []string{"", "a", "\x80", "\x00\x00", "\xff\xff", strings.Repeat("\x81", 200)}
	pack := func(l []string) string {
		s := ""
		for _, x := range l {
			s = wire.PutText(s, x)
		}
		return s
	}
	s := pack(inner)
	const deep = 30
	for range deep {
		s = pack([]string{s, "beside"})
	}
	for i := range deep {
		r := wire.NewReader(s)
		s = r.Text()
		if beside := r.Text(); beside != "beside" || !r.End() {
			t.Fatalf("%d deep: %q, End %v", i, beside, r.End())
		}
	}
	r := wire.NewReader(s)
	for _, want := range inner {
		if got := r.Text(); got != want {
			t.Errorf("%q, not %q", got, want)
		}
	}
	if !r.End() {
		t.Error("something is left")
	}
}
