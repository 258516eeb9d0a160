package impl

const MaxNum = 1000000000

// MaxNum has 30 bits, so a number with more groups of seven is above it, whatever stands in them.
const maxGroups = 5

// More texts than these are put, but do not come back.
const maxTexts = 200

func PutNum(b []byte, n int) []byte { return addNums(ownBytes(b), n) }

func GetNum(b []byte, at int) (int, int, bool) {
	if at < 0 || at >= len(b) {
		return 0, 0, false
	}
	n, worth := 0, 1
	for i, c := range b[at:] {
		if i == maxGroups {
			break // read on, and worth would wrap round to small numbers
		}
		group := int(c % 128)
		n += group * worth
		worth *= 128
		if c >= 128 {
			continue
		}
		if n > MaxNum || i > 0 && group == 0 {
			break
		}
		return n, at + i + 1, true
	}
	return 0, 0, false
}

func PutText(b []byte, s string) []byte { return addTexts(ownBytes(b), s) }

func GetText(b []byte, at int) (string, int, bool) {
	n, from, ok := GetNum(b, at)
	if !ok || n > len(b)-from {
		return "", 0, false
	}
	return string(b[from : from+n]), from + n, true
}

func PutTexts(b []byte, l []string) []byte {
	return addTexts(addNums(ownBytes(b), len(l)), l...)
}

func GetTexts(b []byte, at int) ([]string, int, bool) {
	n, next, ok := GetNum(b, at)
	if !ok || n > maxTexts {
		return nil, 0, false
	}
	l := make([]string, 0, n)
	for range n {
		s, behind, ok := GetText(b, next)
		if !ok {
			return nil, 0, false
		}
		l = append(l, s)
		next = behind
	}
	return l, next, true
}

// addNums appends to b itself, so b is one that ownBytes gave: an argument's spare room is not ours.
func addNums(b []byte, nums ...int) []byte {
	for _, n := range nums {
		n = nearestNum(n)
		for n >= 128 {
			b = append(b, byte(n%128+128))
			n /= 128
		}
		b = append(b, byte(n))
	}
	return b
}

// addTexts appends to b itself, as addNums does.
func addTexts(b []byte, texts ...string) []byte {
	for _, s := range texts {
		b = append(addNums(b, len(s)), s...)
	}
	return b
}

func nearestNum(n int) int {
	if n < 0 {
		return 0
	}
	if n > MaxNum {
		return MaxNum
	}
	return n
}

// ownBytes has no spare room that b's owner could see, so what is added stays out of b.
func ownBytes(b []byte) []byte {
	own := make([]byte, len(b))
	copy(own, b)
	return own
}
