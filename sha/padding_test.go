package sha

import (
	"encoding/binary"
	"strings"
	"testing"
)

// P2.1: what is padded behind bytes that are too many to be laid out in a test.
func TestPadding(t *testing.T) {
	sizes := []int{0, 1, 54, 55, 56, 57, 63, 64, 119, 120}
	for _, great := range []int{1<<29 - 1, 1 << 29, 1<<29 + 56, 1<<31 - 1} { // 2^32 bits are 2^29 bytes
		sizes = append(sizes, great)
	}
	for _, size := range sizes {
		row := padding(size)
		noughts, bits := row[1:len(row)-8], binary.BigEndian.Uint64([]byte(row[len(row)-8:]))
		if row[0] != 0x80 || strings.Trim(noughts, "\x00") != "" || bits != 8*uint64(size) {
			t.Errorf("behind %d bytes: %x", size, row)
		}
		if (size+len(row))%64 != 0 || len(noughts) > 63 {
			t.Errorf("behind %d bytes: %d", size, len(row))
		}
	}
}

// Who has seen enough blocks may stop, wherever.
func TestBlocksStop(t *testing.T) {
	s := strings.Repeat("x", 2*64+60)
	for stop := 1; stop <= 4; stop++ {
		seen := 0
		for block := range blocks(s) {
			if len(block) != 64 {
				t.Errorf("a block of %d bytes", len(block))
			}
			if seen++; seen == stop {
				break
			}
		}
		if seen != stop {
			t.Errorf("%d blocks, not %d", seen, stop)
		}
	}
}
