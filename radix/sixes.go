package radix

import "usher/api"

// splitSixes cuts the bits of p into numbers of six bits each, the last of them filled up with zeros.
func splitSixes(p string) []byte {
	whole := len(p) / 3
	sixes := make([]byte, (8*len(p)+5)/6)
	for i := range whole {
		three, four := p[3*i:3*i+3], sixes[4*i:4*i+4]
		four[0] = three[0] >> 2
		four[1] = three[0]<<4&63 | three[1]>>4
		four[2] = three[1]<<2&63 | three[2]>>6
		four[3] = three[2] & 63
	}
	splitRest(p[3*whole:], sixes[4*whole:])
	return sixes
}

// splitRest lays the one or two bytes at the end into two or three numbers.
func splitRest(rest string, sixes []byte) {
	switch len(rest) {
	case 2:
		sixes[2] = rest[1] << 2 & 63
		sixes[1] = rest[1] >> 4
		fallthrough
	case 1:
		sixes[1] |= rest[0] << 4 & 63
		sixes[0] = rest[0] >> 2
	}
}

// joinSixes undoes splitSixes, and refuses numbers that it never gives.
func joinSixes(sixes []byte) (string, error) {
	whole := len(sixes) / 4
	rest := sixes[4*whole:]
	if !couldBeRest(rest) {
		return "", api.ErrText
	}
	p := make([]byte, 6*len(sixes)/8)
	for i := range whole {
		four, three := sixes[4*i:4*i+4], p[3*i:3*i+3]
		three[0] = four[0]<<2 | four[1]>>4
		three[1] = four[1]<<4 | four[2]>>2
		three[2] = four[2]<<6 | four[3]
	}
	joinRest(rest, p[3*whole:])
	return string(p), nil
}

// couldBeRest asks for the bits that are no byte's to be zero: else two texts would mean the same bytes.
func couldBeRest(rest []byte) bool {
	switch len(rest) {
	case 1:
		return false
	case 2:
		return rest[1]&15 == 0
	case 3:
		return rest[2]&3 == 0
	}
	return true
}

// joinRest lays the two or three numbers at the end into one or two bytes.
func joinRest(rest, p []byte) {
	switch len(rest) {
	case 3:
		p[1] = rest[1]<<4 | rest[2]>>2
		fallthrough
	case 2:
		p[0] = rest[0]<<2 | rest[1]>>4
	}
}
