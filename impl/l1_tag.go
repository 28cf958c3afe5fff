package impl

const WordMask = 65535
const MinSmall = -16384
const MaxSmall = 16383

const maxAddr = 32767

// The bits of a word, counted up from the lowest place.
const (
	bit0 = 1 << iota
	bit1
	bit2
	bit3
	bit4
	bit5
	bit6
	bit7
	bit8
	bit9
	bit10
	bit11
	bit12
	bit13
	bit14
	bit15
)

const tagBit = bit0
const signBit = bit15

// wordBits holds each bit at the index that is its place.
var wordBits = [16]int{
	bit0, bit1, bit2, bit3, bit4, bit5, bit6, bit7,
	bit8, bit9, bit10, bit11, bit12, bit13, bit14, bit15,
}

func isWord(w int) bool {
	return w >= 0 && w <= WordMask
}

// signedWord is asked of words alone: the highest bit counts below 0.
func signedWord(w int) int {
	if w&signBit != 0 {
		return w - WordMask - 1
	}
	return w
}

// smallWord makes the word of a sum that still has its tag and its sign. The
// bounds are those of the numbers, tagged, so that nothing need be untagged.
func smallWord(tagged int) (int, bool, bool) {
	if tagged < 2*MinSmall+tagBit || tagged > 2*MaxSmall+tagBit {
		return 0, false, true
	}
	return tagged & WordMask, true, true
}

func TagSmall(n int) (int, bool) {
	if n < MinSmall || n > MaxSmall {
		return 0, false
	}
	return (2*n + tagBit) & WordMask, true
}

func UntagSmall(w int) (int, bool) {
	if !IsSmall(w) {
		return 0, false
	}
	return signedWord(w) >> 1, true
}

func TagAddr(a int) (int, bool) {
	if a < 0 || a > maxAddr {
		return 0, false
	}
	return 2 * a, true
}

func UntagAddr(w int) (int, bool) {
	if !isWord(w) || IsSmall(w) {
		return 0, false
	}
	return w >> 1, true
}

func IsSmall(w int) bool {
	return isWord(w) && w&tagBit != 0
}

// AddTagged takes the tag off one word alone: the other one's is the sum's.
func AddTagged(a int, b int) (int, bool, bool) {
	if !IsSmall(a) || !IsSmall(b) {
		return 0, false, false
	}
	return smallWord(signedWord(a) + (signedWord(b) - tagBit))
}

// SubTagged takes the tag off what is taken away, so that the other one's
// stays.
func SubTagged(a int, b int) (int, bool, bool) {
	if !IsSmall(a) || !IsSmall(b) {
		return 0, false, false
	}
	return smallWord(signedWord(a) - (signedWord(b) - tagBit))
}

// MulTagged leaves one word doubled: twice a number, times the other number,
// is twice the product, and lacks but the tag.
func MulTagged(a int, b int) (int, bool, bool) {
	if !IsSmall(a) || !IsSmall(b) {
		return 0, false, false
	}
	return smallWord((signedWord(a)-tagBit)*(signedWord(b)>>1) + tagBit)
}

// LessTagged leaves both tags on: they do not change which one is less.
func LessTagged(a int, b int) (bool, bool) {
	if !IsSmall(a) || !IsSmall(b) {
		return false, false
	}
	return signedWord(a) < signedWord(b), true
}

func CountOnes(w int) (int, bool) {
	if !isWord(w) {
		return 0, false
	}
	ones := 0
	for place := range wordBits {
		if w&wordBits[place] != 0 {
			ones++
		}
	}
	return ones, true
}

func LowestOne(w int) (int, bool) {
	if !isWord(w) {
		return 0, false
	}
	for place := range wordBits {
		if w&wordBits[place] != 0 {
			return place, true
		}
	}
	return 0, false
}
