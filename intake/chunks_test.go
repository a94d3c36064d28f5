package intake_test

import (
	"strings"
	"testing"

	"usher/api"
)

const coded = "POST / HTTP/1.1\r\nHost: x\r\nTransfer-Encoding: chunked\r\n\r\n"

// withBody is the request of coded with a body.
func withBody(body string) api.Request {
	return api.Request{Method: "POST", Target: "/", Minor: 1, Fields: pairs("host", "x", "transfer-encoding", "chunked"), Body: body}
}

func TestChunkedBodies(t *testing.T) {
	for s, body := range map[string]string{
		"0\r\n\r\n":                                     "",
		"00000000\r\n\r\n":                              "",
		"1\r\na\r\n0\r\n\r\n":                           "a",
		"00000001\r\na\r\n0\r\n\r\n":                    "a",
		"A\r\n0123456789\r\n0\r\n\r\n":                  "0123456789",
		"a\r\n0123456789\r\n0\r\n\r\n":                  "0123456789",
		"0a\r\n0123456789\r\n00\r\n\r\n":                "0123456789",
		"4\r\n0123\r\n6\r\n456789\r\n0\r\n\r\n":         "0123456789",
		"1;\r\na\r\n0;\r\n\r\n":                         "a",
		"1;a=b;c\r\na\r\n0; \tx\t \r\n\r\n":             "a",
		"1;;\"\x80\xff~!\r\na\r\n0\r\n\r\n":             "a",
		"2\r\n\r\n\r\n0\r\n\r\n":                        "\r\n",
		"1\r\n\r\r\n1\r\n\n\r\n0\r\n\r\n":               "\r\n",
		"5\r\n0\r\n\r\n\r\n5\r\n0\r\n\r\n\r\n0\r\n\r\n": "0\r\n\r\n0\r\n\r\n",
		"0\r\nT: u\r\n\r\n":                             "",
		"0\r\nT:\r\nhost: y\r\nHost:z\r\ncontent-length: 5\r\ntransfer-encoding: x\r\nexpect: x\r\nconnection: close\r\n\r\n": "",
	} {
		mustTake(t, "P7.5", little, coded+s, withBody(body))
		mustPlay(t, "P7.5", little, coded+s+"G", lot{requests: []api.Request{withBody(body)}, left: 1})
		for size := range len(s) {
			mustWant(t, "P7.5", little, coded+s[:size])
		}
	}
}

func TestFaultyChunkedBodies(t *testing.T) {
	for _, line := range []string{
		"", " ", "x", "g", "G", "1g", "1 ", " 1", "\t1", "1\t", "1 ;a", "+1", "-1", "0x1", "1_0", "1.", "1,2", ";", ";a", "000000000", "000000001", "100000000", "\x80",
		"1\r", "\r1", "1\n", "\n1", "1;\x00", "1;a\x1f", "1;\x7f", "1;\r", "1;\n", "1;a\rb", "1;\x0b", "a:b", "0:",
	} {
		mustRefuse(t, "P7.5", little, coded+line+"\r\n", 400)
		mustRefuse(t, "P7.5", little, coded+"1\r\na\r\n"+line+"\r\n", 400)
		mustWant(t, "P7.5", little, coded+line)
	}
	for _, line := range []string{" ", "T", "T u", " T: u", "\tT: u", "T : u", ": u", ":", "T: \x00", "T: \x7f", "T: u\r", "T: u\nV: w", "0", "T(: u", "\x80: u"} {
		mustRefuse(t, "P7.5", little, coded+"0\r\n"+line+"\r\n", 400)
		mustRefuse(t, "P7.5", little, coded+"1\r\na\r\n0;\r\na: b\r\n"+line+"\r\n", 400)
		mustWant(t, "P7.5", little, coded+"0\r\n"+line)
	}
	for _, s := range []string{"1\r\nabc", "1\r\na\n\n", "1\r\na\r\r", "1\r\na\n\r", "1\r\n\r\n\r", "3\r\nabcd\r", "1\r\na0\r\n\r\n", "2\r\na\r\n0\r\n\r\n"} {
		mustRefuse(t, "P7.5", little, coded+s, 400)
	}
	for _, s := range []string{"1\r\na", "1\r\na\r", "1\r\nab", "3\r\nabc", "3\r\nabc\n", "3\r\nabcd"} {
		mustWant(t, "P7.5", little, coded+s)
	}
}

func TestSizesTogether(t *testing.T) {
	for _, s := range []string{"b\r\n", "0000000B\r\n", "ff\r\n", "7fffffff\r\n", "80000000\r\n", "ffffffff\r\n", "FFFFFFFF;a\r\n", "a\r\n0123456789\r\n1\r\n", "1\r\na\r\na\r\n", "1\r\na\r\nffffffff\r\n", "5\r\n01234\r\n6;\r\n"} {
		mustRefuse(t, "P7.5", little, coded+s, 413)
		mustWant(t, "P7.5", little, coded+s[:len(s)-1])
	}
	mustRefuse(t, "P7.5", limits{200, 0}, coded+"1\r\n", 413)
	mustTake(t, "P7.5", limits{200, 0}, coded+"0\r\n\r\n", withBody(""))
	body := strings.Repeat("z", 65536)
	mustTake(t, "P7.5", most, coded+"10000\r\n"+body+"\r\n0\r\n\r\n", withBody(body))
	mustTake(t, "P7.5", most, coded+"ffff\r\n"+body[1:]+"\r\n1\r\nz\r\n0\r\n\r\n", withBody(body))
	mustRefuse(t, "P7.5", most, coded+"10001\r\n", 413)
	mustRefuse(t, "P7.5", most, coded+"10000\r\n"+body+"\r\n1\r\n", 413)
	// A size line that has no form is one ahead of a size that is too great.
	mustRefuse(t, "P7.5", little, coded+"ff;\x00\r\n", 400)
}

// TestLinesTogether: the lines of a chunked body have headMax bytes together, the data and the line ends behind them none.
func TestLinesTogether(t *testing.T) {
	l := limits{60, 100}
	data := strings.Repeat("d", 48)
	for _, c := range []struct {
		ahead string // sound lines, with data
		used  int    // of the sixty bytes
		data  string
	}{
		{"", 0, ""},
		{"30\r\n" + data + "\r\n", 4, data},
		{"30;" + strings.Repeat("e", 20) + "\r\n" + data + "\r\n1\r\na\r\n", 28, data + "a"},
	} {
		room := 60 - c.used
		end := c.ahead + "0;" + strings.Repeat("x", room-6) + "\r\n\r\n"
		mustTake(t, "P7.5", l, coded+end, withBody(c.data))
		mustWant(t, "P7.5", l, coded+end[:len(end)-1])
		mustRefuse(t, "P7.5", l, coded+end[:len(end)-1]+"x", 431)
		end = c.ahead + "0;" + strings.Repeat("x", room-5) + "\r\n\r\n"
		mustRefuse(t, "P7.5", l, coded+end[:len(end)-1], 431)
		mustWant(t, "P7.5", l, coded+end[:len(end)-2])
		end = c.ahead + "0;" + strings.Repeat("x", room-4) + "\r\n"
		mustRefuse(t, "P7.5", l, coded+end, 431) // no byte is left for the empty line
		mustWant(t, "P7.5", l, coded+end[:len(end)-1])
		end = c.ahead + "0;" + strings.Repeat("x", room-3) + "\r\n"
		mustRefuse(t, "P7.5", l, coded+end, 431)
		mustRefuse(t, "P7.5", l, coded+end[:len(end)-1], 431)
		mustWant(t, "P7.5", l, coded+end[:len(end)-2])
		end = c.ahead + "0\r\na: " + strings.Repeat("x", room-10) + "\r\n\r\n"
		mustTake(t, "P7.5", l, coded+end, withBody(c.data))
		end = c.ahead + "0\r\na: " + strings.Repeat("x", room-9) + "\r\n\r\n"
		mustRefuse(t, "P7.5", l, coded+end, 431)
		end = c.ahead + "1;" + strings.Repeat("x", room-4) + "\r\n"
		mustWant(t, "P7.5", l, coded+end)
		mustWant(t, "P7.5", l, coded+end+"a\r")
		mustRefuse(t, "P7.5", l, coded+end+"a\r\n", 431)
		mustRefuse(t, "P7.5", l, coded+end+"abc", 400)
		for n := range 256 {
			mustRefuse(t, "P7.5", l, coded+c.ahead+strings.Repeat(oneByte(n), room), 431)
		}
	}
	mustTake(t, "P7.5", l, coded+strings.Repeat("1\r\nq\r\n", 18)+"0\r\n\r\n", withBody(strings.Repeat("q", 18)))
	mustRefuse(t, "P7.5", l, coded+strings.Repeat("1\r\nq\r\n", 19)+"0\r\n\r\n", 431)
	mustTake(t, "P7.5", l, coded+"0\r\n"+strings.Repeat("a:\r\n", 12)+"abc: \r\n\r\n", withBody(""))
	mustRefuse(t, "P7.5", l, coded+"0\r\n"+strings.Repeat("a:\r\n", 12)+"abcd: \r\n\r\n", 431)
}

// TestChangedChunks holds the reading of chunked bodies against the expressions.
func TestChangedChunks(t *testing.T) {
	for _, s := range []string{"3\r\nabc\r\n02;x=\"y\"\r\nde\r\n0\r\nT: u\r\n\r\nGET", "a\r\n0\r\n\r\n3\r\n\r\n\r\n0;\r\nA:\r\n\r\n" + sound} {
		changedAt(s, func(s string) {
			mustPlayAsExpected(t, "P7.5", little, coded+s)
		})
	}
}

// TestShortChunks plays all bodies of a few parts, where the lines have little room.
func TestShortChunks(t *testing.T) {
	parts := []string{"0", "1", "2", "\r\n", "\r", "\n", ";", "a:", "x", "\r\n\r\n"}
	for _, l := range []limits{{len(coded), 3}, {200, 10}} {
		grow("", parts, 5, func(s string) {
			mustPlayAsExpected(t, "P7.5", l, coded+s)
		})
	}
}
