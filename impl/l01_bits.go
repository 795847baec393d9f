package impl

const MaxBits = 4096

const byteBits = 8

// octet has the bits of one byte, the highest first. It is an array so that two
// are compared whole.
type octet [byteBits]int64

func BitsOk(bits []int64) bool {
	if len(bits) > MaxBits {
		return false
	}
	for _, bit := range bits {
		if bit != 0 && bit != 1 {
			return false
		}
	}
	return true
}

func Bits(s string) []int64 {
	if len(s) > MaxBits/byteBits {
		return []int64{}
	}
	bits := make([]int64, 0, byteBits*len(s))
	from := 0
	// The range goes from rune to rune, and a rune may have several bytes or be
	// no right one: what lies between two beginnings is taken as it is.
	for to := range s {
		bits = withBytes(bits, s[from:to])
		from = to
	}
	return withBytes(bits, s[from:])
}

func Bytes(bits []int64) string {
	if !BitsOk(bits) {
		return ""
	}
	text := make([]byte, 0, (len(bits)+byteBits-1)/byteBits)
	var block octet
	for at := 0; at < len(bits); at += byteBits {
		block.fill(bits[at:])
		text = append(text, block.joined())
	}
	return string(text)
}

func Weight(bits []int64) int64 {
	if !BitsOk(bits) {
		return -1
	}
	weight := int64(0)
	for _, bit := range bits {
		weight += bit
	}
	return weight
}

func Apart(a []int64, b []int64) int64 {
	if len(a) != len(b) || !BitsOk(a) || !BitsOk(b) {
		return -1
	}
	apart := int64(0)
	var left, right octet
	for at := 0; at < len(a); at += byteBits {
		left.fill(a[at:])
		right.fill(b[at:])
		apart += left.apart(right)
	}
	return apart
}

func Flipped(bits []int64, at int64) []int64 {
	if !BitsOk(bits) || at < 0 || at >= int64(len(bits)) {
		return []int64{}
	}
	flipped := make([]int64, len(bits))
	copy(flipped, bits)
	flipped[at] = 1 - flipped[at]
	return flipped
}

func Xored(a string, b string) string {
	if len(a) != len(b) {
		return ""
	}
	text := make([]byte, len(a))
	for i := range text {
		text[i] = a[i] ^ b[i]
	}
	return string(text)
}

func withBytes(bits []int64, s string) []int64 {
	for i := range len(s) {
		block := octetOf(s[i])
		bits = append(bits, block[:]...)
	}
	return bits
}

func octetOf(b byte) octet {
	var block octet
	for i := range block {
		block[i] = int64(b >> (byteBits - 1 - i) & 1)
	}
	return block
}

func (block octet) joined() byte {
	b := byte(0)
	for _, bit := range block {
		b = b<<1 | byte(bit)
	}
	return b
}

// fill takes the first eight bits there are. It clears the block first: where
// there are too few, what it had before would stand behind them.
func (block *octet) fill(bits []int64) {
	clear(block[:])
	copy(block[:], bits)
}

func (block octet) apart(other octet) int64 {
	if block == other {
		return 0
	}
	apart := int64(0)
	for i := range block {
		if block[i] != other[i] {
			apart++
		}
	}
	return apart
}
