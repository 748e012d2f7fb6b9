// Package sum is layer 1: Internet checksums (RFC 1071), and how they follow a change (RFC 1624). See shared/doc/01-sum.md.
package sum

import "weighbridge/api"

// Of tells the checksum of bytes.
func Of(b []byte) uint16 { return End(Add(api.Part{}, b)) }

// Add tells the sum so far of what p is of, with the bytes b behind it.
func Add(p api.Part, b []byte) api.Part {
	if len(b) == 0 {
		return p
	}
	if p.Odd { // the open byte is in the sum already, as the high one of its word
		p.Sum = plus(p.Sum, uint16(b[0]))
		b = b[1:]
	}
	word := func(i int) uint16 {
		high := uint16(b[2*i]) << 8
		if 2*i+1 == len(b) {
			return high
		}
		return high | uint16(b[2*i+1])
	}
	for i := range len(b)/2 + len(b)%2 {
		p.Sum = plus(p.Sum, word(i))
	}
	p.Odd = len(b)%2 == 1
	return p
}

// End tells the checksum that a sum so far comes to.
func End(p api.Part) uint16 { return ^p.Sum }

// Pseudo tells the sum so far of a pseudo header: IPv6's, or IPv4's, whose addresses are the first four bytes.
func Pseudo(v6 bool, src, dst [16]byte, proto uint8, length int) api.Part {
	n := uint32(max(length, 0))
	if !v6 {
		return row(src[:4], dst[:4], []byte{0, proto, byte(n >> 8), byte(n)})
	}
	return row(src[:], dst[:], []byte{byte(n >> 24), byte(n >> 16), byte(n >> 8), byte(n), 0, 0, 0, proto})
}

// Update tells the checksum that sum becomes when one word of its bytes, from, is to instead.
func Update(sum, from, to uint16) uint16 {
	// Adding the complement of from, not taking from away: RFC 1624's third equation, for the earlier one ends at the wrong one of the two noughts.
	return ^plus(plus(^sum, ^from), to)
}

// row tells the sum so far of parts that stand one behind the other.
func row(parts ...[]byte) api.Part {
	var p api.Part
	for _, b := range parts {
		p = Add(p, b)
	}
	return p
}

// plus adds two numbers in ones' complement.
func plus(a, b uint16) uint16 {
	s := uint32(a) + uint32(b)
	return uint16(s + s>>16)
}
