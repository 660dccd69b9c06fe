// Package code has bytes that tell what became of them.
package code

import (
	"math/bits"

	"granary/api"
)

const (
	wordBytes  = 8
	wordBits   = 64
	sumBits    = 0x7F // of a check: all but its bit 7
	polynomial = 0xEDB88320
)

// places has the place of each bit of a word: the numbers from 3 on that are no powers of 2.
// A power of 2 is left out because it stands for a bit of the check itself.
var places = [wordBits]uint8{
	3, 5, 6, 7, 9, 10, 11, 12, 13, 14, 15, 17, 18, 19, 20, 21,
	22, 23, 24, 25, 26, 27, 28, 29, 30, 31, 33, 34, 35, 36, 37, 38,
	39, 40, 41, 42, 43, 44, 45, 46, 47, 48, 49, 50, 51, 52, 53, 54,
	55, 56, 57, 58, 59, 60, 61, 62, 63, 65, 66, 67, 68, 69, 70, 71,
}

// Crc is the check sum of 32 bits that is usual in archives.
func Crc(data []byte) uint32 {
	sum := ^uint32(0)
	for _, b := range data {
		sum = addByte(sum, b)
	}
	return ^sum
}

func addByte(sum uint32, b byte) uint32 {
	sum ^= uint32(b)
	for range 8 {
		gone := sum & 1
		sum >>= 1
		if gone == 1 {
			sum ^= polynomial
		}
	}
	return sum
}

// Protect gives a check byte for each word of eight bytes, in order.
func Protect(data []byte) ([]byte, error) {
	if err := sizeFault(data); err != nil {
		return nil, err
	}
	check := make([]byte, len(data)/wordBytes)
	for i := range check {
		check[i] = checkOf(wordAt(data, i))
	}
	return check, nil
}

// Mend tells what the bytes were, and how many words, with their checks, had one bit turned.
func Mend(data, check []byte) ([]byte, int, error) {
	if err := sizeFault(data); err != nil {
		return nil, 0, err
	}
	if len(check) != len(data)/wordBytes {
		return nil, 0, api.ErrShape
	}
	mended := make([]byte, len(data))
	turned := 0
	for i, c := range check {
		word, count, err := mendWord(wordAt(data, i), c)
		if err != nil {
			return nil, 0, err
		}
		putWord(mended, i, word)
		turned += count
	}
	return mended, turned, nil
}

// sizeFault tells what is wrong with the number of bytes; nil if nothing is.
func sizeFault(data []byte) error {
	if len(data)%wordBytes != 0 {
		return api.ErrShape
	}
	if len(data) > api.MaxBytes {
		return api.ErrFull
	}
	return nil
}

func wordAt(data []byte, index int) uint64 {
	var word uint64
	for k := range wordBytes {
		word |= uint64(data[index*wordBytes+k]) << (8 * k)
	}
	return word
}

func putWord(data []byte, index int, word uint64) {
	for k := range wordBytes {
		data[index*wordBytes+k] = byte(word >> (8 * k))
	}
}

// placeSum gives the bits 0 to 6 of a word's check.
// Each bit that is 1 puts in its place whole, so that all seven digits are summed at once.
func placeSum(word uint64) uint8 {
	var sum uint8
	for i, place := range places {
		if word>>i&1 == 1 {
			sum ^= place
		}
	}
	return sum
}

// parity gives the exclusive or of all bits of a word and of a check.
func parity(word uint64, check uint8) int {
	return (bits.OnesCount64(word) + bits.OnesCount8(check)) % 2
}

func checkOf(word uint64) uint8 {
	sum := placeSum(word)
	return sum | uint8(parity(word, sum))<<7
}

// mendWord gives what a word was, and how many bits were turned in it and its check: 0 or 1.
func mendWord(word uint64, check uint8) (uint64, int, error) {
	off := placeSum(word) ^ check&sumBits
	if parity(word, check) == 0 {
		if off != 0 {
			return 0, 0, api.ErrLost
		}
		return word, 0, nil
	}
	if bits.OnesCount8(off) <= 1 {
		// Only the check was turned: in its bit 7, or in the one bit that is off.
		return word, 1, nil
	}
	for i, place := range places {
		if place == off {
			return word ^ 1<<i, 1, nil
		}
	}
	return 0, 0, api.ErrLost
}
