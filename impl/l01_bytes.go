package impl

const (
	maxNumber  = 2147483647
	maxGroups  = 5
	groupBits  = 7
	groupMask  = 127
	moreFollow = 128
	signBit    = 64
)

func Wrap(n int) int { return int(int32(n)) }

func PutU(b []byte, n int) []byte { return appendU(ownCopy(b), n) }

func GetU(b []byte, at int) (int, int, bool) {
	count := countGroups(b, at)
	if count == 0 {
		return 0, 0, false
	}
	next := at + count
	n := joinGroups(b[at:next])
	if n > maxNumber || count > 1 && b[next-1] == 0 {
		return 0, 0, false
	}
	return n, next, true
}

func PutS(b []byte, n int) []byte { return appendS(ownCopy(b), n) }

func GetS(b []byte, at int) (int, int, bool) {
	count := countGroups(b, at)
	if count == 0 {
		return 0, 0, false
	}
	next := at + count
	n := joinGroups(b[at:next])
	if b[next-1]&signBit != 0 {
		n -= 1 << (groupBits * count)
	}
	if n != Wrap(n) || count > len(PutS(nil, n)) {
		return 0, 0, false
	}
	return n, next, true
}

func PutText(b []byte, s string) []byte { return appendText(ownCopy(b), s) }

func GetText(b []byte, at int) (string, int, bool) {
	size, from, ok := GetU(b, at)
	if !ok || size > len(b)-from {
		return "", 0, false
	}
	return string(b[from : from+size]), from + size, true
}

// ownCopy is there because append alone could write into the spare room behind b.
func ownCopy(b []byte) []byte {
	return append(make([]byte, 0, len(b)+maxGroups), b...)
}

// appendU may write behind b's length: b must be the program's own.
func appendU(b []byte, numbers ...int) []byte {
	for _, n := range numbers {
		n = min(max(n, 0), maxNumber)
		for n > groupMask {
			b = append(b, byte(n&groupMask|moreFollow))
			n >>= groupBits
		}
		b = append(b, byte(n))
	}
	return b
}

// appendS may write behind b's length: b must be the program's own.
func appendS(b []byte, numbers ...int) []byte {
	for _, n := range numbers {
		n = Wrap(n)
		// One group alone holds -64 .. 63: outside of that its sign bit would tell the wrong sign.
		for n < -signBit || n >= signBit {
			b = append(b, byte(n&groupMask|moreFollow))
			n >>= groupBits
		}
		b = append(b, byte(n&groupMask))
	}
	return b
}

// appendText may write behind b's length: b must be the program's own.
func appendText(b []byte, s string) []byte {
	return append(appendU(b, len(s)), s...)
}

// countGroups answers 0 where no number is there whole.
func countGroups(b []byte, at int) int {
	if at < 0 || at >= len(b) {
		return 0
	}
	for i, c := range b[at:min(len(b), at+maxGroups)] {
		if c < moreFollow {
			return i + 1
		}
	}
	return 0
}

func joinGroups(groups []byte) int {
	n := 0
	for i, c := range groups {
		n |= int(c&groupMask) << (groupBits * i)
	}
	return n
}
