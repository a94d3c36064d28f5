package registry_test

import (
	"strings"
	"testing"

	"usher/api"
)

func TestNumbersOfLines(t *testing.T) {
	for count := range 50 {
		lines := strings.Repeat("\n", count)
		mustNotRead(t, lines, count+1, api.ErrShort)
		mustNotRead(t, lines+" ", count+2, api.ErrShort)
		mustNotRead(t, lines+"#", count+2, api.ErrShort)
		mustNotRead(t, lines+"x", count+1, api.ErrText)
		mustNotRead(t, lines+"x\n", count+1, api.ErrText)
		mustNotRead(t, lines+"rounds 0\nx", count+1, api.ErrArg)
		mustNotRead(t, lines+"rounds 1", count+2, api.ErrShort)
		mustNotRead(t, lines+"rounds 1\n", count+2, api.ErrShort)
		mustNotRead(t, lines+"rounds 1\n\n", count+3, api.ErrShort)
		mustRead(t, lines+head+lines, base())
	}
	mustNotRead(t, strings.Repeat("\n", 262144), 262145, api.ErrShort)
	mustNotRead(t, strings.Repeat("\n", 262143)+"x", 262144, api.ErrText)
}

// TestLastLine is read with a line feed and without one.
func TestLastLine(t *testing.T) {
	for _, text := range []string{head, fullText()} {
		want, _, _ := readByModel(text)
		mustRead(t, text, want)
		mustRead(t, text[:len(text)-1], want)
		mustRead(t, text+"\n", want)
		mustRead(t, text+" ", want)
		mustRead(t, text+"#", want)
		mustNotRead(t, text+"x", strings.Count(text, "\n")+1, api.ErrText)
		mustNotRead(t, text[:len(text)-1]+" x", strings.Count(text, "\n"), api.ErrText)
	}
}

// TestBlanks may stand ahead of words, behind them and between them, but no other white byte may.
func TestBlanks(t *testing.T) {
	want := full()
	for count := 1; count <= 5; count++ {
		blanks := strings.Repeat(" ", count)
		text := fullText()
		mustRead(t, strings.ReplaceAll(text, " ", blanks), want)
		mustRead(t, strings.ReplaceAll(text, "\n", blanks+"\n"), want)
		mustRead(t, blanks+strings.ReplaceAll(text, "\n", "\n"+blanks), want)
		mustRead(t, blanks+strings.ReplaceAll(strings.ReplaceAll(text, " ", blanks), "\n", blanks+"\n"+blanks+"\n"+blanks), want)
		mustRead(t, strings.ReplaceAll(text, "\n", "\n"+blanks+"\n"), want)
	}
	for _, white := range []string{"\t", "\r", "\v", "\f", "\x00", "\x85", "\xa0", "\u00a0", "\u2003", "\u0085", "_"} {
		mustNotRead(t, strings.ReplaceAll(head, " ", white), 1, api.ErrText)
		mustNotRead(t, strings.ReplaceAll(head, "\n", white+"\n"), 1, api.ErrText)
		mustNotRead(t, head+white+fullText()[len(head):], 9, api.ErrText)
		mustNotRead(t, head+white+"\n", 9, api.ErrText)
		mustNotRead(t, head+white, 9, api.ErrText)
		mustNotRead(t, head+white+"# no comment", 9, api.ErrText)
	}
	mustNotRead(t, strings.ReplaceAll(head, "\n", "\r\n"), 1, api.ErrText)
}

// TestComments hold any bytes but a line feed, and nothing of them is read.
func TestComments(t *testing.T) {
	for _, comment := range []string{"#", "##", "#x", "# x", "  #", "   # rounds 1", "#rounds 0", "# client", "#\t", "#\r", "# \x00\x01\xff\xfe", "#" + strings.ReplaceAll(everyByte(), "\n", ""), strings.Repeat("#", 1000)} {
		mustRead(t, comment+"\n"+head, base())
		mustRead(t, head+comment, base())
		mustRead(t, head+comment+"\n", base())
		mustRead(t, strings.ReplaceAll(fullText(), "\n", "\n"+comment+"\n"), full())
		mustNotRead(t, comment, 2, api.ErrShort)
		mustNotRead(t, comment+"\nrounds 0", 2, api.ErrArg)
		mustNotRead(t, "x"+comment, 1, api.ErrText)
	}
	for n := range 256 {
		if b := oneByte(n); b != "\n" {
			mustRead(t, head+"#"+b+"\n", base())
			mustRead(t, "  # "+b+" x\n"+head, base())
		}
	}
	mustNotRead(t, "rounds 1 # not a comment", 1, api.ErrText)
	mustNotRead(t, "rounds 1# not a comment", 1, api.ErrText)
	mustNotRead(t, "rounds # 1", 1, api.ErrText)
	mustNotRead(t, "#\nrounds #1", 2, api.ErrText)
}

// TestBytesOfLines puts each byte into each line: it is refused ahead of all else, or is a byte of a word.
func TestBytesOfLines(t *testing.T) {
	app := head + "client app public\n"
	for n := range 256 {
		b := oneByte(n)
		if n >= 0x20 && n <= 0x7e || b == "\n" {
			continue
		}
		for _, line := range []string{b, "rounds 1" + b, b + "rounds 1", "rounds " + b, "rounds 1 " + b, "client a" + b + " public", "client a public " + b, "client a secret 00" + b + " " + zeros, "redirect https://a.example/" + b, "scopes a b" + b, "scopes " + b, "user a" + b + " 00 " + zeros, "user a 00 " + zeros + " " + b, "x" + b} {
			mustNotRead(t, app+line, 10, api.ErrText)
			mustNotRead(t, app+"  "+line+"  \n", 10, api.ErrText)
			mustNotRead(t, "\n"+line+"\nrounds 0", 2, api.ErrText)
		}
	}
	for n := 0x21; n <= 0x7e; n++ {
		c := base()
		c.Users = []api.User{{Name: oneByte(n), Secret: secretOf(1)}}
		mustRead(t, head+"user "+oneByte(n)+" "+digitsOf(secretOf(1)), c)
		if n != '#' {
			mustNotRead(t, head+oneByte(n), 9, api.ErrText)
			mustNotRead(t, head+oneByte(n)+" 1", 9, api.ErrText)
		}
	}
}

func TestSizeOfTheText(t *testing.T) {
	for _, size := range []int{262143, 262144} {
		mustRead(t, head+strings.Repeat(" ", size-len(head)), base())
		mustRead(t, head+strings.Repeat("#", size-len(head)), base())
		mustRead(t, strings.Repeat("\n", size-len(head))+head, base())
		mustNotRead(t, strings.Repeat("#", size), 2, api.ErrShort)
		mustNotRead(t, strings.Repeat("x", size), 1, api.ErrText)
	}
	for _, size := range []int{262145, 262146, 1 << 20} {
		mustNotRead(t, head+strings.Repeat(" ", size-len(head)), 0, api.ErrMany)
		mustNotRead(t, strings.Repeat("#", size), 0, api.ErrMany)
		mustNotRead(t, strings.Repeat("\n", size), 0, api.ErrMany)
		mustNotRead(t, strings.Repeat("x", size), 0, api.ErrMany)
		mustNotRead(t, strings.Repeat("\x00", size), 0, api.ErrMany)
	}
}

// TestFirstLineWithAnError ends it, whatever comes behind.
func TestFirstLineWithAnError(t *testing.T) {
	lines := []struct {
		line string
		want error
	}{{"x", api.ErrText}, {"rounds 0", api.ErrArg}, {"rounds 7", api.ErrTwice}, {"scopes " + strings.Join(numbered("s", 17), " "), api.ErrMany}}
	for _, first := range lines {
		for _, second := range lines {
			mustNotRead(t, head+"client app public\n"+first.line+"\n"+second.line, 10, first.want)
			mustNotRead(t, head+"client app public\n\n\n"+first.line+"\n\n"+second.line+"\n", 12, first.want)
		}
	}
}

func TestFirstWords(t *testing.T) {
	for _, word := range []string{"x", "clients", "Client", "CLIENT", "clien", "redirects", "Redirect", "scope", "Scopes", "users", "User", "client:", "-", "fail", "locks", "0", "max-clients"} {
		for _, rest := range []string{"", " 1", " app public", " https://a.example/", " read", " ann 00 " + zeros} {
			mustNotRead(t, head+"client app public\n"+word+rest, 10, api.ErrText)
		}
	}
}
