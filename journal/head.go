package journal

import (
	"whisk/api"
)

// How a head's text is laid out.
const (
	halfFrom  = 8
	sizeFrom  = 12
	textBytes = 16
	againFrom = 64 // in its sector, where the text stands a second time
	byteBits  = 8
)

// head says which half counts, and how many bytes of it; of two heads the one with the higher number counts.
type head struct {
	number uint64
	half   int
	size   int
}

// text answers the text that says it.
func (h head) text() [textBytes]byte {
	var text [textBytes]byte
	copy(text[:], rowOf(h.number, halfFrom))
	copy(text[halfFrom:], rowOf(uint64(h.half), sizeFrom-halfFrom))
	copy(text[sizeFrom:], rowOf(uint64(h.size), textBytes-sizeFrom))
	return text
}

// sector answers the sector that says it.
func (h head) sector() string {
	var sector [api.Sector]byte
	text := h.text()
	copy(sector[:], text[:])
	copy(sector[againFrom:], text[:])
	return string(sector[:])
}

// headOf answers what a head's sector says, or false, if it says nothing that may be where a half has so many bytes.
func headOf(sector string, space int) (head, bool) {
	number := numberOf(sector[:halfFrom])
	half := numberOf(sector[halfFrom:sizeFrom])
	size := numberOf(sector[sizeFrom:textBytes])
	if !isWhole(sector) || number == 0 || half >= halves || size > uint64(space) {
		return head{}, false
	}
	return head{number: number, half: int(half), size: int(size)}, true
}

// isWhole tells whether a head's sector has the same text at both its places.
func isWhole(sector string) bool {
	return sector[:textBytes] == sector[againFrom:againFrom+textBytes]
}

// rowOf answers n in so many bytes, the highest first.
func rowOf(n uint64, size int) []byte {
	row := make([]byte, size)
	for i := range row {
		row[len(row)-1-i] = byte(n >> (i * byteBits))
	}
	return row
}

// numberOf answers the number that a row tells, the highest byte first.
func numberOf(row string) uint64 {
	n := uint64(0)
	for i := range len(row) {
		n = n<<byteBits | uint64(row[i])
	}
	return n
}
