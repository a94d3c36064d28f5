package jsonobj

// The characters below this one are written by escapes alone.
const firstUnescaped = ' '

// shortEscapes are the letters that stand behind a backslash, with the characters that they stand for. The reader takes all of them; the writer has no need of the one for the slash.
var shortEscapes = [8]struct {
	letter byte
	char   rune
}{
	{'"', '"'}, {'\\', '\\'}, {'/', '/'}, {'b', '\b'}, {'f', '\f'}, {'n', '\n'}, {'r', '\r'}, {'t', '\t'},
}

// shortLetter is the letter of the short escape for a character.
func shortLetter(char rune) (byte, bool) {
	for n := range len(shortEscapes) {
		if shortEscapes[n].char == char {
			return shortEscapes[n].letter, true
		}
	}
	return 0, false
}

// shortMeaning is the character of the short escape with a letter.
func shortMeaning(letter byte) (rune, bool) {
	for n := range len(shortEscapes) {
		if shortEscapes[n].letter == letter {
			return shortEscapes[n].char, true
		}
	}
	return 0, false
}
