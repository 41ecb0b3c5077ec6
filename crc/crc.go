// Package crc is layer 1: a sum of 32 bits: see shared/doc/01-crc.md.
package crc

import "withy/api"

const (
	turn = 0x04C11DB7 // what a register is turned by
	tail = 4          // bytes of a sum behind sealed bytes
)

// Of is bytes' sum.
func Of(b []byte) uint32 { return More(0, b) }

// More is a sum that goes on.
func More(sum uint32, b []byte) uint32 {
	// The sum of no bytes is 0: the register, all ones, with all its bits turned.
	reg := ^sum
	for _, x := range b {
		reg = shift(reg, x)
	}
	return ^reg
}

// shift lets a byte's bits into a register.
func shift(reg uint32, x byte) uint32 {
	for i := range 8 {
		bit := uint32(x) >> (7 - i) & 1
		unlike := reg>>31 != bit
		reg <<= 1
		if unlike {
			reg ^= turn
		}
	}
	return reg
}

// Seal is bytes and their sum.
func Seal(b []byte) []byte {
	sum := Of(b)
	out := make([]byte, 0, len(b)+tail)
	out = append(out, b...)
	return append(out, byte(sum>>24), byte(sum>>16), byte(sum>>8), byte(sum))
}

// Open is sealed bytes.
func Open(b []byte) ([]byte, api.Errno) {
	if len(b) < tail {
		return nil, api.ErrText
	}
	n := len(b) - tail
	if Of(b[:n]) != last(b[n:]) {
		return nil, api.ErrSum
	}
	out := make([]byte, n)
	copy(out, b)
	return out, api.OK
}

// last is a sum that stands in four bytes, the highest first.
func last(b []byte) uint32 {
	return uint32(b[0])<<24 | uint32(b[1])<<16 | uint32(b[2])<<8 | uint32(b[3])
}
