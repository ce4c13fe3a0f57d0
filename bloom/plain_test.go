package bloom

import (
	"math/big"
	"math/rand"
)

// number is a great number, told in figures.
func number(figures string) *big.Int {
	n, _ := new(big.Int).SetString(figures, 10)
	return n
}

// plainNumber is a text's number by the chapter's words.
func plainNumber(s string) *big.Int {
	n := number("14695981039346656037")
	for i := 0; i < len(s); i++ {
		n.Xor(n, big.NewInt(int64(s[i])))
		n.Mul(n, number("1099511628211"))
		n.Mod(n, number("18446744073709551616"))
	}
	return n
}

// plainBits are a text's bits in a filter of m bits, by the chapter's words.
func plainBits(s string, m int) []int {
	second, first := new(big.Int).DivMod(plainNumber(s), number("4294967296"), new(big.Int))
	second.SetBit(second, 0, 1)
	var l []int
	for i := 0; i <= 3; i++ {
		k := new(big.Int).Mul(second, big.NewInt(int64(i)))
		k.Add(k, first)
		l = append(l, int(k.Mod(k, big.NewInt(int64(m))).Int64()))
	}
	return l
}

// plainSize is how many bits a filter for n terms has.
func plainSize(n int) int {
	m := 10 * n
	if m < 64 {
		m = 64
	}
	if m > 1048576 {
		m = 1048576
	}
	for m%8 != 0 {
		m++
	}
	return m
}

// plainFilter is a filter as the set of the numbers of the bits that are there.
type plainFilter struct {
	m     int
	there map[int]bool
}

// plainNew is one for n terms.
func plainNew(n int) plainFilter {
	return plainFilter{m: plainSize(n), there: map[int]bool{}}
}

// plainRead is the one of these bytes.
func plainRead(b string) plainFilter {
	p := plainFilter{m: 8 * len(b), there: map[int]bool{}}
	for k := 0; k < p.m; k++ {
		power := 1
		for range k % 8 {
			power *= 2
		}
		if int(b[k/8])/power%2 == 1 {
			p.there[k] = true
		}
	}
	return p
}

// add is what Add is to answer.
func (p plainFilter) add(terms ...string) int {
	n := len(p.there)
	for _, s := range terms {
		for _, k := range plainBits(s, p.m) {
			p.there[k] = true
		}
	}
	return len(p.there) - n
}

// may is what May is to answer.
func (p plainFilter) may(s string) bool {
	for _, k := range plainBits(s, p.m) {
		if !p.there[k] {
			return false
		}
	}
	return true
}

// bytes is what Bytes is to answer.
func (p plainFilter) bytes() string {
	b := make([]byte, p.m/8)
	for k := range p.there {
		power := 1
		for range k % 8 {
			power *= 2
		}
		b[k/8] += byte(power)
	}
	return string(b)
}

// randomText is bytes of any kind, up to most of them.
func randomText(r *rand.Rand, most int) string {
	b := make([]byte, r.Intn(most+1))
	r.Read(b)
	return string(b)
}

// randomBytes are n bytes with few bits, about half of them, or many.
func randomBytes(r *rand.Rand, n int) string {
	b, other := make([]byte, n), make([]byte, n)
	r.Read(b)
	r.Read(other)
	for i, kind := 0, r.Intn(3); i < n; i++ {
		switch kind {
		case 0:
			b[i] &= other[i]
		case 1:
			b[i] |= other[i]
		}
	}
	return string(b)
}
