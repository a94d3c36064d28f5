package journal_test

import (
	"math"
	"math/rand"
	"strings"
	"testing"

	"usher/api"
	"usher/journal"
)

// TestNumbersAtTheirLimits takes each number of an entry at its limits and one beyond.
func TestNumbersAtTheirLimits(t *testing.T) {
	for _, c := range []struct {
		place           func(*api.Entry) *int
		least, greatest int
	}{
		{func(e *api.Entry) *int { return &e.Conn }, 0, 15},
		{func(e *api.Entry) *int { return &e.At }, 0, maxSeconds},
		{func(e *api.Entry) *int { return &e.Minor }, 0, 1},
		{func(e *api.Entry) *int { return &e.Status }, 100, 599},
		{func(e *api.Entry) *int { return &e.Bytes }, 0, math.MaxInt},
	} {
		for _, n := range []int{c.least, c.greatest, (c.greatest-c.least)/2 + c.least} {
			e := first()
			*c.place(&e) = n
			mustBeLine(t, e, modelLine(e))
		}
		wrong := []int{c.least - 1, c.least - 2, -1000, math.MinInt}
		if c.greatest < math.MaxInt {
			wrong = append(wrong, c.greatest+1, c.greatest+2, c.greatest*10, math.MaxInt)
		}
		for _, n := range wrong {
			for _, e := range []api.Entry{first(), bare()} {
				*c.place(&e) = n
				mustNotBe(t, e)
			}
		}
	}
}

// TestRequestsThatMayBe takes every byte as a method, and every byte into a target.
func TestRequestsThatMayBe(t *testing.T) {
	for b := range 256 {
		one := string([]byte{byte(b)})
		for _, method := range []string{one, "A" + one, one + "A"} {
			e := first()
			if e.Method = method; strings.Contains(tokenBytes, one) {
				mustBeLine(t, e, modelLine(e))
			} else {
				mustNotBe(t, e)
			}
		}
		for _, target := range []string{"/" + one, "/a" + one + "b"} {
			e := first()
			if e.Target = target; strings.Contains(targetBytes, one) {
				mustBeLine(t, e, modelLine(e))
			} else {
				mustNotBe(t, e)
			}
		}
		e := first()
		for _, target := range []string{one, one + "/"} {
			if e.Target = target; target != "/" && target != "//" {
				mustNotBe(t, e)
			}
		}
	}
}

// TestPartsOfARequest: either all of it is there or nothing.
func TestPartsOfARequest(t *testing.T) {
	for _, method := range []string{"", "GET", "-", "a b", "é"} {
		for _, target := range []string{"", "/", "-", "*", "a", "http://x/", "/é", "/ ", " /"} {
			for _, minor := range []int{-1, 0, 1, 2} {
				e := first()
				e.Method, e.Target, e.Minor = method, target, minor
				isThere := (method == "GET" || method == "-") && target == "/" && (minor == 0 || minor == 1)
				isNot := method == "" && target == "" && minor == 0
				if isThere || isNot {
					mustBeLine(t, e, modelLine(e))
				} else {
					mustNotBe(t, e)
				}
			}
		}
	}
}

// TestTextsOfAnEntry takes odd texts in each place where any text may be.
func TestTextsOfAnEntry(t *testing.T) {
	list := []string{"", "-", "--", " -", "- ", `"`, `\`, `\\`, `\x`, `\x2d`, `\x22`, " ", "  ", "\t", "\n", "\r\n", "\x00", "\x1f", "\x7f", "\x80", "\xff", "é", "\u2028", `"-"`, `" "`, everyByte(), everyByte() + everyByte(), strings.Repeat("-", 100), firstLine, firstLine + "\n"}
	for b := range 256 {
		one := string([]byte{byte(b)})
		list = append(list, one, one+one, "a"+one, one+"-", "-"+one)
	}
	for _, text := range list {
		for _, e := range []api.Entry{first(), bare()} {
			e.User = text
			mustBeLine(t, e, modelLine(e))
			e.Referer = text
			mustBeLine(t, e, modelLine(e))
			e.Agent = text
			mustBeLine(t, e, modelLine(e))
			e.User, e.Referer = "", ""
			mustBeLine(t, e, modelLine(e))
		}
	}
}

// TestSpelling writes out what the lines of some entries are, byte by byte.
func TestSpelling(t *testing.T) {
	mustBeLine(t, first(), firstLine)
	mustBeLine(t, bare(), bareLine)
	mustBeLine(t, api.Entry{Status: 100}, `0 - - [01/Jan/1970:00:00:00 +0000] "-" 100 0 "-" "-"`)
	mustBeLine(t, api.Entry{Conn: 9, User: "-", At: maxSeconds, Method: "-", Target: "/", Status: 599, Bytes: math.MaxInt, Referer: "-", Agent: "--"},
		`9 - \x2d [31/Dec/9999:23:59:59 +0000] "- / HTTP/1.0" 599 9223372036854775807 "\x2d" "--"`)
	mustBeLine(t, api.Entry{Conn: 10, User: "a b", At: 951782400, Method: "!#$%&'*+-.^_`|~", Target: `/"\x`, Minor: 1, Status: 303, Bytes: 10, Referer: "\x00\x1f \x7f\x80\xff", Agent: "~!"},
		"10 - a\\x20b [29/Feb/2000:00:00:00 +0000] \"!#$%&'*+-.^_`|~ /\\x22\\x5cx HTTP/1.1\" 303 10 \"\\x00\\x1f\\x20\\x7f\\x80\\xff\" \"~!\"")
}

// mustBeTame holds P21.7 of a line.
func mustBeTame(t *testing.T, line string) {
	t.Helper()
	for i := range len(line) {
		if line[i] < 0x20 || line[i] > 0x7e {
			t.Errorf("P21.7: a byte %02x stands in %q", line[i], line)
		}
	}
	if n := strings.Count(line, `"`); n != 6 {
		t.Errorf("P21.7: %d quotes stand in %q", n, line)
	}
}

func TestEntriesByChance(t *testing.T) {
	random := rand.New(rand.NewSource(5))
	seen := map[string]api.Entry{}
	for range 50000 {
		e := anEntry(random)
		line := modelLine(e)
		mustBeLine(t, e, line)
		mustBeTame(t, line)
		if other, ok := seen[line]; ok && other != e {
			t.Errorf("P21.5: %+v and %+v have one line", e, other)
		}
		seen[line] = e
	}
}

// TestNoTextMakesALine: however a text looks, the line count stays the number of entries.
func TestNoTextMakesALine(t *testing.T) {
	for _, text := range []string{"\n", "x\"\n" + firstLine + "\n", "\r\n" + bareLine, `" 200 0 "-" "-"` + "\n", "\x0a\x0a", "\u0085\u2028"} {
		e := first()
		e.User, e.Referer, e.Agent = text, text, text
		line, err := journal.Line(e)
		if err != nil {
			t.Fatalf("P21.4: %v", err)
		}
		mustBeTame(t, line)
		log, err := journal.Lines([]api.Entry{e, e, e})
		if err != nil || strings.Count(log, "\n") != 3 {
			t.Errorf("P21.7: three entries are the log %q, %v", log, err)
		}
	}
}

// TestEveryChangeOfALine holds texts that are one change away from a line against the model.
func TestEveryChangeOfALine(t *testing.T) {
	odd := api.Entry{Conn: 12, User: "-", At: 951782400, Method: "x", Target: `/"\a`, Status: 100, Bytes: math.MaxInt, Referer: "a\n\x80", Agent: `\x41`}
	for _, e := range []api.Entry{first(), bare(), odd} {
		changed(modelLine(e), everyByte(), func(s string) { mustReadAsModel(t, s) })
	}
}

func TestChangesOfLinesByChance(t *testing.T) {
	random := rand.New(rand.NewSource(6))
	pieces := []string{"", " ", "  ", "-", `"`, `""`, `"-"`, `\`, `\x`, `\x2d`, `\x2D`, `\x22`, `\x41`, `\x20`, `\xe9`, `\xE9`, `\x5`, "0", "00", "007", "+5", "-5", "16", "15", "99", "100", "599", "600", "9223372036854775807", "9223372036854775808", "99999999999999999999", "[", "]", "+0000", "-0000", "+0100", "/", ":", "Jan", "jan", "31/Apr", "29/Feb/2001", "1969", "24:00:00", "23:59:60", "GET", "HTTP/1.2", "HTTP/1.0", "HTTP/2.0", "http/1.1", "\n", "\r", "\t", "\x00", "\x7f", "\xff"}
	for range 200000 {
		s := modelLine(anEntry(random))
		for range 1 + random.Intn(2) {
			from := random.Intn(len(s) + 1)
			to := min(len(s), from+oneOf(random, 0, 1, 2, 4, random.Intn(20)))
			s = s[:from] + oneOf(random, pieces...) + s[to:]
		}
		mustReadAsModel(t, s)
	}
}

// TestWhatIsNoLine names faults of each part of a line.
func TestWhatIsNoLine(t *testing.T) {
	for _, change := range [][2]string{
		{"0 -", "00 -"}, {"0 -", "16 -"}, {"0 -", "-1 -"}, {"0 -", "+0 -"}, {"0 -", " -"}, {"0 -", "-"}, {"0 -", "x -"}, {"0 - ", "0 "}, {"0 - ", "0 -- "}, {"0 - ", "0 x "}, {"0 - ", "0 \\x2d "}, {"0 - ", "01 - "}, {"0 - ", "18446744073709551616 - "},
		{"ann", ""}, {"ann", `\x61nn`}, {"ann", "a n"}, {"ann", `a"n`}, {"ann", `a\n`}, {"ann", "a\nn"}, {"ann", "a\tn"}, {"ann", "a\x7fn"}, {"ann", "é"}, {"ann", `\xe`}, {"ann", `\xE9`}, {"ann", `\Xe9`}, {"ann", `\xeg`}, {"ann", `\x2D`}, {"ann", `\x`}, {"ann", `\`}, {"ann", `a\x2d`}, {"ann", "'ann' "},
		{"[06", "[6"}, {"[06", "[ 6"}, {"[06", "[006"}, {"[06", "[00"}, {"[06", "[31"}, {"[06", "06"}, {"Nov", "nov"}, {"Nov", "11"}, {"Nov", "Nox"}, {"1994", "94"}, {"1994", "1969"}, {"1994", "19940"}, {"1994", "0000"}, {":08:", " 08:"}, {"08:49:37", "24:00:00"}, {"08:49:37", "23:59:60"}, {"08:49:37", "08:60:00"}, {"08:49:37", "8:49:37"}, {"+0000", "+0100"}, {"+0000", "-0000"}, {"+0000", "0000"}, {"+0000", "GMT"}, {"]", ""}, {" +0000", "+0000"}, {"] ", "]"}, {"] ", "]  "},
		{"GET ", ""}, {"GET", ""}, {"GET", "G T"}, {"GET", `G"T`}, {"GET", "G/T"}, {"GET", `\x47ET`}, {"GET", "G\x00T"}, {"/a", "a"}, {"/a", ""}, {"/a", `\x2fa`}, {"/a", `/\x61`}, {"/a", `/\x20`}, {"/a", `/\x7f`}, {"/a", `/"`}, {"/a", `/\`}, {"/a", `/\x5C`}, {"/a", "/é"}, {"/a", "-"}, {"/a", "/a b"}, {"HTTP/1.1", "HTTP/1.2"}, {"HTTP/1.1", "HTTP/1.11"}, {"HTTP/1.1", "HTTP/1."}, {"HTTP/1.1", "HTTP/2.1"}, {"HTTP/1.1", "http/1.1"}, {"HTTP/1.1", ""}, {" HTTP/1.1", ""}, {"HTTP/1.1", "HTTP/1.1 "}, {`"GET /a HTTP/1.1"`, `""`}, {`"GET /a HTTP/1.1"`, `-`}, {`"GET /a HTTP/1.1"`, `"--"`}, {`"GET /a HTTP/1.1"`, `"\x2d"`}, {`"GET /a HTTP/1.1"`, `"- "`}, {`"GET /a HTTP/1.1"`, `" / HTTP/1.0"`}, {`"GET /a HTTP/1.1"`, `"- - HTTP/1.0"`},
		{"200", "99"}, {"200", "099"}, {"200", "600"}, {"200", "2000"}, {"200", "20"}, {"200", "0200"}, {"200", "+200"}, {"200", "-200"}, {"200", ""}, {"200", "OK"}, {"200", "2e2"}, {"200", "0xc8"}, {"200", "2_00"}, {" 200", "200"},
		{" 5 ", " 05 "}, {" 5 ", " 007 "}, {" 5 ", "  5 "}, {" 5 ", " 5  "}, {" 5 ", " +5 "}, {" 5 ", " -5 "}, {" 5 ", " -0 "}, {" 5 ", " 00 "}, {" 5 ", " "}, {" 5 ", "  "}, {" 5 ", " - "}, {" 5 ", " 9223372036854775808 "}, {" 5 ", " 18446744073709551616 "}, {" 5 ", " 18446744073709551621 "}, {" 5 ", " " + strings.Repeat("9", 400) + " "}, {" 5 ", " 5.0 "}, {" 5 ", " 1_0 "}, {" 5 ", "\t5 "},
		{`"-"`, `""`}, {`"-"`, `-`}, {`"-"`, `"- "`}, {`"-"`, `" "`}, {`"-"`, `"\x2D"`}, {`"-"`, `"-`}, {`"-"`, `-"`}, {`"-"`, `"""`}, {`"-"`, `"-" "-"`}, {`"-" `, `"-"`}, {`"-" `, `"-"  `}, {`"-" `, ``},
		{`\x22y`, `\x2`}, {`\x22y`, `\x`}, {`\x22y`, `\`}, {`\x22y`, `"y`}, {`\x22y`, `\"y`}, {`\x22y`, `\x79`}, {`\x20`, " "}, {`\x20`, `\X20`}, {`y\x22"`, `y\x22`}, {`y\x22"`, `y\x22""`}, {`y\x22"`, `y\x22" `}, {`y\x22"`, `y\x22"` + "\n"}, {`y\x22"`, `y\x22"x`}, {`y\x22"`, `y\x2"`}, {`x\x20\x22y\x22"`, `"`}, {`x\x20\x22y\x22"`, `\x2d\x2d"`},
	} {
		if !strings.Contains(firstLine, change[0]) {
			t.Fatalf("the line has no %q", change[0])
		}
		s := strings.Replace(firstLine, change[0], change[1], 1)
		mustBeNoLine(t, s)
	}
	for _, s := range []string{"", " ", "\n", "-", `"`, "0", "0 - - ", bareLine + " ", " " + bareLine, bareLine + "\n", "\n" + bareLine, bareLine + "\r", bareLine + bareLine, bareLine + "\n" + bareLine, strings.ToUpper(firstLine), strings.ToLower(firstLine)} {
		mustBeNoLine(t, s)
	}
	for i := range len(firstLine) {
		mustBeNoLine(t, firstLine[:i])
		mustBeNoLine(t, firstLine[i+1:])
	}
}

// TestEscapesInOtherSpelling takes each byte as an escape: it is one just if it need be, in small letters.
func TestEscapesInOtherSpelling(t *testing.T) {
	const digits = "0123456789abcdef"
	for b := range 256 {
		escape := `\x` + digits[b>>4:b>>4+1] + digits[b&15:b&15+1]
		mustReadAsModel(t, strings.Replace(firstLine, "ann", escape, 1))
		mustReadAsModel(t, strings.Replace(firstLine, "ann", "a"+escape, 1))
		mustReadAsModel(t, strings.Replace(firstLine, "/a", "/"+escape, 1))
		mustReadAsModel(t, strings.Replace(firstLine, `"-"`, `"`+escape+`"`, 1))
		if great := `\x` + strings.ToUpper(escape[2:]); great != escape {
			mustBeNoLine(t, strings.Replace(firstLine, "ann", great, 1))
			mustBeNoLine(t, strings.Replace(firstLine, `"-"`, `"`+great+`"`, 1))
		}
	}
}
