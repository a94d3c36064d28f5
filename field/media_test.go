package field_test

import (
	"math/rand"
	"strings"
	"testing"
)

func TestTheExamplesOfMedia(t *testing.T) {
	mustMedia(t, "Text/HTML ; charset=\"a;\\\"b\"; x=y", "text/html")
	mustMedia(t, "text/html;", "text/html")
	for _, v := range []string{"text/html ", "text", "text/html; x"} {
		mustNotMedia(t, v)
	}
}

func TestEveryByteInAMediaType(t *testing.T) {
	for n := range 256 {
		char := oneByte(n)
		for _, v := range []string{char + "/b", "a/" + char, "x" + char + "/b", "a/" + char + "x", "a/x" + char + "y"} {
			if strings.Contains(tokenBytes, char) {
				mustMedia(t, v, strings.ToLower(v))
			} else {
				mustMediaAsExpected(t, v)
			}
		}
		mustMediaAsExpected(t, "a"+char+"b")
		mustMediaAsExpected(t, char)
		mustMediaAsExpected(t, char+"a/b")
		mustMediaAsExpected(t, "a/b"+char+"c=d")
	}
}

func TestEveryByteInAParameter(t *testing.T) {
	for n := range 256 {
		char := oneByte(n)
		isValueByte := n == 0x09 || n >= 0x20 && n != 0x7f
		if isValueByte && char != "\"" && char != "\\" {
			mustMedia(t, "a/b;c=\""+char+"\"", "a/b")
			mustMedia(t, "a/b;c=\"x"+char+"y\";d=e", "a/b")
		} else {
			mustNotMedia(t, "a/b;c=\""+char+"\"")
			mustMediaAsExpected(t, "a/b;c=\"x"+char+"y\";d=e")
		}
		if isValueByte {
			mustMedia(t, "a/b;c=\"\\"+char+"\"", "a/b")
			mustMedia(t, "a/b;c=\"\\"+char+"\\"+char+"\" ;", "a/b")
		} else {
			mustNotMedia(t, "a/b;c=\"\\"+char+"\"")
		}
		if strings.Contains(tokenBytes, char) {
			mustMedia(t, "a/b;"+char+"=d", "a/b")
			mustMedia(t, "a/b;c="+char, "a/b")
		} else {
			mustMediaAsExpected(t, "a/b;"+char+"=d")
			mustMediaAsExpected(t, "a/b;c="+char)
		}
		for _, v := range []string{"a/b;c" + char + "=d", "a/b;c=" + char + "d", "a/b;c=d" + char, "a/b;c=\"d\"" + char, "a/b;c=\"d\"" + char + "e=f", "a/b;" + char, "a/b;" + char + ";", "a/b" + char, "a/b" + char + ";"} {
			mustMediaAsExpected(t, v)
		}
	}
}

func TestTheLettersOfAMediaTypeAreSmall(t *testing.T) {
	mustMedia(t, "ABCDEFGHIJKLM/NOPQRSTUVWXYZ", "abcdefghijklm/nopqrstuvwxyz")
	mustMedia(t, "aZ09!#$%&'*+-.^_`|~/Q;R=S", "az09!#$%&'*+-.^_`|~/q")
	mustMedia(t, "*/*", "*/*")
	mustMedia(t, "application/x-www-form-urlencoded;charset=UTF-8", "application/x-www-form-urlencoded")
}

func TestParametersOfAMediaType(t *testing.T) {
	for _, behind := range []string{"", ";", ";;", " ;", "\t;\t", "; ", ";\t \t", " ; ; ", ";c=d", "; c=d", ";c=d;", ";c=d ;e=f", ";;c=d;;", ";c=\"\"", ";c=\"\\\\\"", ";c=\"\\\"\"", ";c=\";\"", ";c=\"a b\" ; e=f", ";c=\"\x80 \t\"", ";c=\"d\";", ";c=d;c=d", ";charset=utf-8"} {
		mustMedia(t, "Text/html"+behind, "text/html")
	}
	for _, behind := range []string{" ", "\t", " \t ", " c=d", ",", "/", "/c", ";c", ";c ", ";c;", ";c=", ";c= ", ";c=;", ";=", ";=d", ";c =d", ";c= d", ";c= \"d\"", ";c=d ", ";c=d\t", ";c=\"d\" ", ";c=\"", ";c=\"d", ";c=\"\\", ";c=\"\\\"", ";c=\"\\\\\\\"", ";c=\"\"d", ";c=d\"\"", ";c=\"d\"e=f", ";c=\"d\"\"e\"", ";c=d e=f", ";c==d", ";\"c\"=d", ";\n", ";c=\"\n\"", ";c=\"\x7f\"", ";c=\"\\\x7f\"", ";c=\"\\\n\"", ";c=\"\x00\"", ";c=\u00e9", "\r\n"} {
		mustNotMedia(t, "text/html"+behind)
	}
	for _, v := range []string{"", "/", "text/", "/html", "text html", "text//html", "text /html", "text/ html", " text/html", "\ttext/html", "text;html", ";", "text/;", "te\u00e9t/html", "\xff/\xff", "\"text\"/html"} {
		mustNotMedia(t, v)
	}
}

func TestAllShortMediaTypes(t *testing.T) {
	grow("", []string{"a", "/", ";", " ", "=", "\""}, 6, func(v string) { mustMediaAsExpected(t, v) })
	grow("a/b;", []string{"a", ";", "\t", "=", "\"", "\\", "\x7f"}, 6, func(v string) { mustMediaAsExpected(t, v) })
}

func TestMediaWithOneByteChanged(t *testing.T) {
	for _, v := range []string{"Text/HTML ; charset=\"a;\\\"b\"; x=y", "a/b;", "application/json", "a/b \t;\t ;c=\"\""} {
		changedAt(v, func(changed string) { mustMediaAsExpected(t, changed) })
	}
}

func TestMediaOfNoise(t *testing.T) {
	random := rand.New(rand.NewSource(4))
	for round := range 20000 {
		mustMediaAsExpected(t, "a/b;c=\""+noise(random, "a\\\" ;=/\t\xff", round%12))
		mustMediaAsExpected(t, "a/b"+noise(random, ";;;c=\" d", round%10))
	}
}
