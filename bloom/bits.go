package bloom

import "math/bits"

// bitset is bits, eight a byte: bit k is that of 2^(k modulo 8) in byte k by 8.
type bitset []byte

// newBitset is room for n bits or, as bytes are whole, some more; none is there.
func newBitset(n int) bitset {
	return make(bitset, (n+7)/8)
}

// size is for how many bits there is room.
func (s bitset) size() int {
	return 8 * len(s)
}

// has tells whether bit k is there.
func (s bitset) has(k int) bool {
	return s[k/8]>>(k%8)&1 == 1
}

// put lets bit k be there.
func (s bitset) put(k int) {
	s[k/8] |= 1 << (k % 8)
}

// count is how many bits are there.
func (s bitset) count() int {
	n := 0
	for _, c := range s {
		n += bits.OnesCount8(c)
	}
	return n
}
