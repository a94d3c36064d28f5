package pct

// An escape: the percent sign and two digits.
const escapeSize = 3

// The plain bytes; the percent sign, which lies among them, is none.
const (
	firstPlain = 0x21
	lastPlain  = 0x7e
)

const largeDigits = "0123456789ABCDEF"

// Runs of bits, to be shifted to where the run of bytes begins.
const (
	tenDigits  = 1<<10 - 1
	allLetters = 1<<26 - 1
)

// unreserved has one bit for each byte, 64 of them in a word: the table is reached from every layer above, and so is kept small.
var unreserved = [4]uint64{
	tenDigits<<'0' | 1<<'-' | 1<<'.',
	(allLetters<<'A' | allLetters<<'a' | 1<<'_' | 1<<'~') >> 64,
	0,
	0,
}

func isUnreserved(b byte) bool {
	return unreserved[b/64]>>(b%64)&1 == 1
}

func appendEscaped(written []byte, s string, plus bool) []byte {
	for i := range len(s) {
		switch b := s[i]; {
		case isUnreserved(b):
			written = append(written, b)
		case b == ' ' && plus:
			written = append(written, '+')
		default:
			written = append(written, '%', largeDigits[b>>4], largeDigits[b&15])
		}
	}
	return written
}

// escapeAt is the byte for which the escape stands whose percent sign is at this place.
func escapeAt(s string, at int) (byte, bool) {
	if len(s)-at < escapeSize {
		return 0, false
	}
	high, highOk := digitValue(s[at+1])
	low, lowOk := digitValue(s[at+2])
	return high<<4 | low, highOk && lowOk
}

func digitValue(b byte) (byte, bool) {
	switch {
	case '0' <= b && b <= '9':
		return b - '0', true
	case 'A' <= b && b <= 'F':
		return b - 'A' + 10, true
	case 'a' <= b && b <= 'f':
		return b - 'a' + 10, true
	}
	return 0, false
}
