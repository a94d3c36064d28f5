package radix

import "usher/api"

// What a letter stands for is its place in its table. Reading turns the same table round, so that the two ways cannot disagree.

var urlLetters = [64]byte{
	'A', 'B', 'C', 'D', 'E', 'F', 'G', 'H', 'I', 'J', 'K', 'L', 'M',
	'N', 'O', 'P', 'Q', 'R', 'S', 'T', 'U', 'V', 'W', 'X', 'Y', 'Z',
	'a', 'b', 'c', 'd', 'e', 'f', 'g', 'h', 'i', 'j', 'k', 'l', 'm',
	'n', 'o', 'p', 'q', 'r', 's', 't', 'u', 'v', 'w', 'x', 'y', 'z',
	'0', '1', '2', '3', '4', '5', '6', '7', '8', '9', '-', '_',
}

var stdLetters = [64]byte{
	'A', 'B', 'C', 'D', 'E', 'F', 'G', 'H', 'I', 'J', 'K', 'L', 'M',
	'N', 'O', 'P', 'Q', 'R', 'S', 'T', 'U', 'V', 'W', 'X', 'Y', 'Z',
	'a', 'b', 'c', 'd', 'e', 'f', 'g', 'h', 'i', 'j', 'k', 'l', 'm',
	'n', 'o', 'p', 'q', 'r', 's', 't', 'u', 'v', 'w', 'x', 'y', 'z',
	'0', '1', '2', '3', '4', '5', '6', '7', '8', '9', '+', '/',
}

var hexDigits = [16]byte{
	'0', '1', '2', '3', '4', '5', '6', '7', '8', '9', 'a', 'b', 'c', 'd', 'e', 'f',
}

// A reading holds for each byte one more than the number that it stands for: so 0 is left for a byte that is no letter.
type reading [256]byte

func urlReading() reading {
	var r reading
	for n := range len(urlLetters) {
		r[urlLetters[n]] = byte(n + 1)
	}
	return r
}

func stdReading() reading {
	var r reading
	for n := range len(stdLetters) {
		r[stdLetters[n]] = byte(n + 1)
	}
	return r
}

func hexReading() reading {
	var r reading
	for n := range len(hexDigits) {
		r[hexDigits[n]] = byte(n + 1)
	}
	return r
}

// numbers are what the letters of s stand for.
func (r reading) numbers(s string) ([]byte, error) {
	list := make([]byte, len(s))
	for i := range len(s) {
		oneMore := r[s[i]]
		if oneMore == 0 {
			return nil, api.ErrText
		}
		list[i] = oneMore - 1
	}
	return list, nil
}
