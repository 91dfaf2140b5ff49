package impl

const MaxNum = 1000000000

const (
	groupSize = 128
	// MaxNum is below 128 to the power of 5: a sixth group could only be needless or too great.
	maxGroups  = 5
	allBits    = 1<<32 - 1
	crcTurn    = 2197175160
	hashStart  = 2166136261
	hashFactor = 16777619
)

func PutNum(b []byte, n int) []byte {
	return putNums(b, n)
}

// putNums answers new memory at once, so who calls it may go on to append to what it answers.
func putNums(b []byte, list ...int) []byte {
	out := append([]byte{}, b...)
	for _, n := range list {
		rest := min(max(n, 0), MaxNum)
		for rest >= groupSize {
			out = append(out, byte(rest%groupSize+groupSize))
			rest /= groupSize
		}
		out = append(out, byte(rest))
	}
	return out
}

func GetNum(b []byte, at int) (int, int, bool) {
	if at < 0 || at >= len(b) {
		return 0, 0, false
	}
	end := min(len(b), at+maxGroups)
	n, unit := 0, 1
	for i, c := range b[at:end] {
		group := int(c % groupSize)
		n += group * unit
		unit *= groupSize
		if c >= groupSize {
			continue
		}
		if i > 0 && group == 0 || n > MaxNum {
			return 0, 0, false
		}
		return n, at + i + 1, true
	}
	return 0, 0, false
}

// getNums reads one number behind the other into all the places that it is
// handed. What it has read ahead of one that is none counts for nothing.
func getNums(b []byte, at int, into ...*int) (int, bool) {
	for _, n := range into {
		ok := false
		if *n, at, ok = GetNum(b, at); !ok {
			return 0, false
		}
	}
	return at, true
}

func PutText(b []byte, s string) []byte {
	return append(putNums(b, len(s)), s...)
}

func GetText(b []byte, at int) (string, int, bool) {
	size, from, ok := GetNum(b, at)
	// Held against what is left, not added up, so that no size can pass the end of an int.
	if !ok || size > len(b)-from {
		return "", 0, false
	}
	return string(b[from : from+size]), from + size, true
}

func Crc(b []byte) int {
	sum := uint32(allBits)
	add := func(c byte) {
		sum ^= uint32(c)
		for range 8 {
			odd := sum%2 == 1
			sum /= 2
			if odd {
				sum ^= crcTurn
			}
		}
	}
	for _, c := range b {
		add(c)
	}
	return int(^sum)
}

func Hash(s string) int {
	sum := uint32(hashStart)
	add := func(c byte) {
		// The kind of 32 bits wraps round, which is the modulo.
		sum = (sum ^ uint32(c)) * hashFactor
	}
	for i := range len(s) {
		add(s[i])
	}
	return int(sum)
}
