package field

// white is the bytes that are trimmed.
const white = " \t"

// The flags of a byte's number in the table.
const (
	tokenByte = 1 << iota
	cookieByte
)

// table holds for each byte the sum of its flags.
type table [256]byte

// classes makes the table. The bytes from 0x80 on have no flag, and so are not written out.
func classes() table {
	const (
		n = 0
		c = cookieByte
		b = tokenByte + cookieByte
	)
	return table{
		0x20: n, b, n, b, b, b, b, b, c, c, b, b, n, b, b, c, //   ! " # $ % & ' ( ) * + , - . /
		0x30: b, b, b, b, b, b, b, b, b, b, c, n, c, c, c, c, // 0 1 2 3 4 5 6 7 8 9 : ; < = > ?
		0x40: c, b, b, b, b, b, b, b, b, b, b, b, b, b, b, b, // @ A B C D E F G H I J K L M N O
		0x50: b, b, b, b, b, b, b, b, b, b, b, c, n, c, b, b, // P Q R S T U V W X Y Z [ \ ] ^ _
		0x60: b, b, b, b, b, b, b, b, b, b, b, b, b, b, b, b, // ` a b c d e f g h i j k l m n o
		0x70: b, b, b, b, b, b, b, b, b, b, b, c, b, c, b, n, // p q r s t u v w x y z { | } ~
	}
}

func (t *table) isTokenByte(b byte) bool {
	return t[b]&tokenByte != 0
}

func (t *table) isCookieByte(b byte) bool {
	return t[b]&cookieByte != 0
}

func (t *table) isToken(s string) bool {
	return s != "" && all(s, t.isTokenByte)
}

// isCookie: may a cookie have this name and this value?
func (t *table) isCookie(name, value string) bool {
	return t.isToken(name) && all(value, t.isCookieByte)
}

func isWhite(b byte) bool {
	return b == ' ' || b == '\t'
}

func isValueByte(b byte) bool {
	return b == '\t' || b >= 0x20 && b != 0x7f
}

func all(s string, mayBe func(byte) bool) bool {
	for i := range len(s) {
		if !mayBe(s[i]) {
			return false
		}
	}
	return true
}

// sameName holds names against each other, case-blind. Only the letters A to Z have a case here: the library's folding knows more of them.
func sameName(a, b string) bool {
	if len(a) != len(b) {
		return false
	}
	for i := range len(a) {
		if small(a[i]) != small(b[i]) {
			return false
		}
	}
	return true
}

func small(b byte) byte {
	if 'A' <= b && b <= 'Z' {
		return b - 'A' + 'a'
	}
	return b
}
