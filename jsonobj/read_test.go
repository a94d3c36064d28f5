package jsonobj_test

import (
	"fmt"
	"math/rand"
	"slices"
	"strconv"
	"strings"
	"testing"

	"usher/api"
	"usher/jsonobj"
)

const blanks = " \t\n\r"

func TestReadExamples(t *testing.T) {
	mustRead(t, `{"a":1}`, num("a", 1))
	mustRead(t, ` { "\u0061" : -0 , "b":"\ud83d\ude00\/" } `, num("a", 0), text("b", "\xf0\x9f\x98\x80/"))
	mustNotRead(t, api.ErrTwice, `{"a":1,"\u0061":2}`)
	for _, s := range []string{`{"a":01}`, `{"a":1.0}`, `{"a":null}`, `{"a":"\ud83d"}`, `{,}`, `{"a":1}x`, ""} {
		mustNotRead(t, api.ErrText, s)
	}
	mustRead(t, `{"a":9223372036854775807}`, num("a", 9223372036854775807))
	mustNotRead(t, api.ErrText, `{"a":9223372036854775808}`)
}

func TestReadOfEachKind(t *testing.T) {
	mustRead(t, `{}`)
	mustRead(t, `{"":""}`, text("", ""))
	mustRead(t, `{"a":"b c"}`, text("a", "b c"))
	mustRead(t, `{"a":true,"b":false}`, flag("a", true), flag("b", false))
	mustRead(t, `{"z":"true","y":1,"x":false,"":"1"}`, text("z", "true"), num("y", 1), flag("x", false), text("", "1"))
	mustRead(t, `{"{\"a\":1}":"},{:"}`, text(`{"a":1}`, "},{:"))
}

func TestReadNumbers(t *testing.T) {
	for _, number := range edgeNumbers {
		mustRead(t, `{"n":`+strconv.Itoa(number)+`}`, num("n", number))
	}
	mustRead(t, `{"n":-9223372036854775808}`, num("n", -9223372036854775808))
	mustRead(t, `{"n":-0,"m":0}`, num("n", 0), num("m", 0))
	for _, wrong := range []string{
		"9223372036854775808", "-9223372036854775809", "18446744073709551616", "-18446744073709551616", "18446744073709551617",
		"99999999999999999999", "92233720368547758070", strings.Repeat("9", 100000),
		"00", "01", "-00", "-01", "-", "--1", "+1", "+0", "1.0", "1.", ".1", "-.1", "1e1", "1E1", "1e+1", "0e0", "0x1", "0b1", "0o1", "1_0",
		"1 2", "- 1", "1-", "1+", "1,", "\uff11", "\u0661", "Infinity", "NaN", "1a", "1\"\"", "1true", "1n",
	} {
		mustNotRead(t, api.ErrText, `{"n":`+wrong+`}`)
		mustNotRead(t, api.ErrText, `{"a":"b","n":`+wrong+` }`)
	}
}

func TestReadOtherValues(t *testing.T) {
	for _, wrong := range []string{
		"null", "[]", "[1]", "{}", `{"b":1}`, "", "true1", "truex", "falsey", "tru", "fals", "True", "TRUE", "tRue", "truE", "False", "falsE", "t", "f", "tfalse", "t rue", "true true", "undefined", "'a'", "a",
		`"a`, `a"`, `"a""b"`, `"a"1`, `"a" "b"`, `""""`, `"`, `\"a\"`, `"a"b`, ",", ":", ":1", "true\x00", "1\x00", "\x00", "1\v", "1\f", "\u00a01", "1\u2028",
	} {
		mustNotRead(t, api.ErrText, `{"n":`+wrong+`}`)
		mustNotRead(t, api.ErrText, `{"n":`+wrong+`,"m":1}`)
		mustNotRead(t, api.ErrText, `{"m":1,"n":`+wrong+`}`)
	}
}

func TestReadOtherShapes(t *testing.T) {
	for _, wrong := range []string{
		"", " ", "{", "}", "{{", "}}", "}{", "{}}", "{{}", "{{}}", "{}{}", "{},", ",{}", "{}x", "x{}", "[]", "[{}]", `"a"`, "1", "true", "null", "{ , }", "{,}", "{:}", "{1}", "{true}",
		`{"a"}`, `{"a":}`, `{:1}`, `{"a":1,}`, `{,"a":1}`, `{"a":1,,"b":1}`, `{"a":1 "b":1}`, `{"a":1"b":1}`, `{"a":1;"b":1}`, `{"a"::1}`, `{"a" 1}`, `{"a"=1}`, `{"a","b"}`, `{"a":1:2}`, `{"a":"b":"c"}`,
		`{a:1}`, `{'a':1}`, `{1:1}`, `{true:1}`, `{null:1}`, `{{}:1}`, `{"a:1}`, `{a":1}`, `{"a"b:1}`, `"a":1`, `{"a":1`, `"a":1}`, `{"a":1]`, `["a":1}`, `("a":1)`,
		"\ufeff{}", "{}\ufeff", "{\u00a0}", "\u00a0{}", "{}\u3000", "{}\x00", "\x00{}", "{\x00}", "{}\v", "\f{}", "{\v}", "{}\x85", "{\x1f}", "{}//", "/**/{}", "{\"a\":1}\x00", "{\"a\":1}{\"b\":1}", "{\"a\":1}\n{}",
	} {
		mustNotRead(t, api.ErrText, wrong)
	}
}

func TestReadBlanksWhereTheyMayStand(t *testing.T) {
	want := []api.Member{text("a b", "c  d"), num("e", -12), flag("f", true), flag("g", false)}
	parts := []string{"", "{", `"a b"`, ":", `"c  d"`, ",", `"e"`, ":", "-12", ",", `"f"`, ":", "true", ",", `"g"`, ":", "false", "}"}
	for i := range parts {
		for _, between := range []string{" ", "\t", "\n", "\r", blanks, strings.Repeat("\r\n", 3000)} {
			mustRead(t, strings.Join(parts[:i+1], "")+between+strings.Join(parts[i+1:], ""), want...)
			mustRead(t, strings.Join(parts, between)+between, want...)
		}
	}
	for _, between := range []string{"", " ", blanks} {
		mustRead(t, between+"{"+between+"}"+between)
	}
}

func TestReadEveryByteInEveryPlace(t *testing.T) {
	for _, s := range []string{`{}`, `{"a b":-120,"b":true}`, ` { "f" : false } `, "{\"\u20ac\":\"x\\n\\u00e9\\ud83d\\ude00\"}"} {
		mustReadAsExpected(t, s)
		for place := range len(s) + 1 {
			for number := range 256 {
				one := string([]byte{byte(number)})
				mustReadAsExpected(t, s[:place]+one+s[place:])
				if place < len(s) {
					mustReadAsExpected(t, s[:place]+one+s[place+1:])
				}
			}
			if place < len(s) {
				mustReadAsExpected(t, s[:place]+s[place+1:])
			}
		}
	}
}

func TestReadCutOff(t *testing.T) {
	s := "{\"a\\u0062\":\"\\ud83d\\ude00\u20ac\\n\" , \"c\" : -12, \"d\":true,\"e\":false}"
	for size := range len(s) {
		mustNotRead(t, api.ErrText, s[:size])
		mustNotRead(t, api.ErrText, s[:size]+" ")
	}
	mustRead(t, s, text("ab", "\U0001f600\u20ac\n"), num("c", -12), flag("d", true), flag("e", false))
}

func TestReadEveryByteQuoted(t *testing.T) {
	for number := range 256 {
		one := string([]byte{byte(number)})
		for _, value := range []string{one, "a" + one + "z", "\u00e9" + one} {
			if number < 0x20 || number > 0x7f || one == `"` || one == `\` {
				mustNotRead(t, api.ErrText, `{"n":"`+value+`"}`)
				mustNotRead(t, api.ErrText, `{"`+value+`":1}`)
				continue
			}
			mustRead(t, `{"n":"`+value+`"}`, text("n", value))
			mustRead(t, `{"`+value+`":1}`, num(value, 1))
		}
	}
}

func TestReadCharactersAtTheirEdges(t *testing.T) {
	for number := range len(edgeBytes) * len(edgeBytes) * len(edgeBytes) * len(edgeBytes) {
		four := make([]byte, 4)
		for i := range four {
			four[i] = edgeBytes[number%len(edgeBytes)]
			number /= len(edgeBytes)
		}
		value := string(four)
		if strings.ContainsAny(value, "\x00\x1f") {
			continue
		}
		got, err := jsonobj.Read(`{"n":"` + value + `"}`)
		if plain(value) && (err != nil || len(got) != 1 || got[0] != text("n", value)) || !plain(value) && (got != nil || err != api.ErrText) {
			t.Fatalf("P4.3: the quoted text %q is read as %#v, %v; whether it is plain: %v", value, got, err, plain(value))
		}
	}
}

func TestReadShortEscapes(t *testing.T) {
	meanings := map[byte]string{'"': "\"", '\\': "\\", '/': "/", 'b': "\x08", 'f': "\x0c", 'n': "\x0a", 'r': "\x0d", 't': "\x09"}
	for number := range 256 {
		escape := `\` + string([]byte{byte(number)})
		meant, ok := meanings[byte(number)]
		for _, around := range []string{"", "a", "u", `\\`} {
			value := around + escape + around
			if !ok {
				mustNotRead(t, api.ErrText, `{"n":"`+value+`"}`)
				mustNotRead(t, api.ErrText, `{"`+value+`":1}`)
				continue
			}
			meant := strings.ReplaceAll(around, `\\`, `\`) + meant + strings.ReplaceAll(around, `\\`, `\`)
			mustRead(t, `{"n":"`+value+`"}`, text("n", meant))
			mustRead(t, `{"`+value+`":1}`, num(meant, 1))
		}
	}
}

func TestReadEveryUnit(t *testing.T) {
	for number := range 1 << 16 {
		for _, escape := range []string{fmt.Sprintf(`\u%04x`, number), fmt.Sprintf(`\u%04X`, number)} {
			s := `{"n":"a` + escape + `b"}`
			if 0xd800 <= number && number <= 0xdfff {
				mustNotRead(t, api.ErrText, s)
				continue
			}
			mustRead(t, s, text("n", "a"+string(rune(number))+"b"))
		}
	}
}

func TestReadEveryDigitOfAUnit(t *testing.T) {
	const digits = "0123456789abcdefABCDEF"
	for place := range 4 {
		for number := range 256 {
			unit := []byte("0041")
			unit[place] = byte(number)
			s := `{"n":"\u` + string(unit) + `"}`
			if !strings.Contains(digits, string(unit[place:place+1])) || number >= 0x80 {
				mustNotRead(t, api.ErrText, s)
				continue
			}
			meant, _ := strconv.ParseInt(string(unit), 16, 32)
			mustRead(t, s, text("n", string(rune(meant))))
		}
	}
	mustRead(t, `{"n":"\u00e9\u00E9\uaBcD\u0041f"}`, text("n", "\u00e9\u00e9\uabcdAf"))
	for _, wrong := range []string{`\u`, `\u0`, `\u00`, `\u004`, `\U0041`, `\u{41}`, `\u+041`, `\u-041`, `\u 041`, `\u00 41`, `\x41`, `\u0x41`, `\u004\u0041`} {
		mustNotRead(t, api.ErrText, `{"n":"`+wrong+`"}`)
		mustNotRead(t, api.ErrText, `{"n":"`+wrong+`g"}`)
		mustNotRead(t, api.ErrText, `{"n":"`+wrong)
	}
}

func TestReadPairsOfUnits(t *testing.T) {
	edges := []int{0, 0x41, 0xd7ff, 0xd800, 0xd801, 0xd83d, 0xdbfe, 0xdbff, 0xdc00, 0xdc01, 0xde00, 0xdffe, 0xdfff, 0xe000, 0xffff}
	for _, first := range edges {
		for _, second := range edges {
			s := fmt.Sprintf(`{"n":"\u%04x\u%04X"}`, first, second)
			high, low := 0xd800 <= first && first <= 0xdbff, 0xdc00 <= second && second <= 0xdfff
			half := 0xd800 <= first && first <= 0xdfff || 0xd800 <= second && second <= 0xdfff
			switch {
			case high && low:
				mustRead(t, s, text("n", string(rune(0x10000+(first-0xd800)*0x400+second-0xdc00))))
			case half:
				mustNotRead(t, api.ErrText, s)
			default:
				mustRead(t, s, text("n", string(rune(first))+string(rune(second))))
			}
		}
	}
	mustRead(t, `{"\uD800\uDC00":"\uDBFF\uDFFF"}`, text("\U00010000", "\U0010ffff"))
	mustRead(t, `{"n":"\ud83d\ude00\ud83d\ude01"}`, text("n", "\U0001f600\U0001f601"))
}

func TestReadUnitsWithoutTheirSecond(t *testing.T) {
	for _, wrong := range []string{
		`\ud83d`, `\ude00`, `\ude00\ud83d`, `\ud83d\ud83d\ude00`, `\ud83d\ude00\ude00`, `\ud83d\ude00\ud83d`, `\ud83da\ude00`, `\ud83d \ude00`, `\ud83d\n\ude00`, `\ud83d\\ude00`, `\ud83dude00`, `\ud83d\Ude00`, `\ud83d\xde00`, `\ud83dxude00`,
		`\ud83d\ude0`, `\ud83d\ude`, `\ud83d\u`, `\ud83d\`, `\ud83d\ude0g`, `\ud83d\u0041`, `\ud83d\ue000`, `\ud83d\udbff`, `\udc00\udc00`, "\\ud83d\xed\xb8\x80", "\\ud83d\u20ac",
	} {
		mustNotRead(t, api.ErrText, `{"n":"`+wrong+`"}`)
		mustNotRead(t, api.ErrText, `{"n":"a`+wrong+`z"}`)
		mustNotRead(t, api.ErrText, `{"`+wrong+`":1}`)
		mustNotRead(t, api.ErrText, `{"n":"`+wrong)
	}
}

func TestReadUpToTheLimit(t *testing.T) {
	for count := range 40 {
		var parts []string
		for _, member := range numbered(count) {
			written, err := jsonobj.Object([]api.Member{member})
			if err != nil || len(written) < 2 {
				t.Fatalf("P4.2: Object of one member: %q, %v", written, err)
			}
			parts = append(parts, written[1:len(written)-1])
		}
		s := "{" + strings.Join(parts, " , ") + "}"
		if count <= 32 {
			mustRead(t, s, numbered(count)...)
		} else {
			mustNotRead(t, api.ErrMany, s)
		}
		mustNotRead(t, api.ErrText, s+"x")
		mustNotRead(t, api.ErrText, s[:len(s)-1])
	}
}

func TestReadOrderOfRefusals(t *testing.T) {
	many := func(count int) string { return "{" + strings.Repeat(`"a":1,`, count-1) + `"a":1` }
	mustNotRead(t, api.ErrTwice, many(2)+"}")
	mustNotRead(t, api.ErrTwice, many(32)+"}")
	mustNotRead(t, api.ErrMany, many(33)+"}")
	mustNotRead(t, api.ErrMany, many(5000)+"}")
	for _, count := range []int{2, 32, 33, 5000} {
		for _, wrong := range []string{"", ",}", "]", "}x", `,"a":x}`, `,"a":9223372036854775808}`, `,"a":null}`, ",\"a\":\"\xff\"}", `,"a":"\ud83d"}`} {
			mustNotRead(t, api.ErrText, many(count)+wrong)
		}
	}
	mustNotRead(t, api.ErrText, `{"a":1,"a":x}`)
	for _, names := range []string{`"":1,"":2`, `"\n":1,"\u000A":2`, `"\/":1,"/":2`, "\"\u20ac\":1,\"\\u20ac\":2", "\"\U0001f600\":1,\"\\ud83d\\ude00\":2", `"a":1,"b":2,"a":true`} {
		mustNotRead(t, api.ErrTwice, "{"+names+"}")
	}
	mustRead(t, `{"a":1,"A":2,"\\u0061":3,"a ":4}`, num("a", 1), num("A", 2), num(`\u0061`, 3), num("a ", 4))
}

func TestReadANameTwiceAnywhere(t *testing.T) {
	for i := range 32 {
		for j := range i {
			list := numbered(32)
			list[i].Name = "{" + list[j].Name
			list[j].Name = "}" + list[j].Name
			written, _ := jsonobj.Object(list)
			mustRead(t, written, list...)
			mustNotRead(t, api.ErrTwice, strings.Replace(written, `"{`, `"}`, 1))
		}
	}
}

// TestReadMixedTexts holds Read against the expressions of the form on texts that are put together of pieces, most of them with a fault or two.
func TestReadMixedTexts(t *testing.T) {
	pieces := []string{"{", "}", ",", ":", `"`, `"a"`, `"b"`, `"\u0061"`, `""`, "1", "-0", "0", "12", "-", "true", "false", "null", " ", "\n", `\`, `\n`, `\u00e9`, `\ud83d`, `\ude00`, "\u20ac", "\xe2\x82", "\x1f", "x", `{"a":1`, `,"b":true`, `"c":"`, `"d":9223372036854775808`}
	outcomes := map[error]int{}
	random := rand.New(rand.NewSource(4))
	for range 60000 {
		inner := []string{}
		for range random.Intn(6) {
			value := []string{"1", "-0", "true", "false", `"x"`, `"\ud83d\ude00"`, " 7 "}[random.Intn(7)]
			inner = append(inner, []string{`"a"`, `"b" `, `"c"`, ` "\u0064"`, `"e"`, `"f"`, `"g"`}[random.Intn(7)]+":"+value)
		}
		s := "{" + strings.Join(inner, ",") + "}"
		for range random.Intn(3) {
			place, size := random.Intn(len(s)+1), random.Intn(3)
			s = s[:place] + pieces[random.Intn(len(pieces))] + s[min(place+size, len(s)):]
		}
		_, err := expected(s)
		outcomes[err]++
		mustReadAsExpected(t, s)
	}
	if outcomes[nil] < 1000 || outcomes[api.ErrText] < 1000 || outcomes[api.ErrTwice] < 1000 {
		t.Errorf("the texts are not mixed: %v", outcomes)
	}
}

func TestReadLongTexts(t *testing.T) {
	long := strings.Repeat("a\u20ac\\n\\u0041", 50000)
	meant := strings.Repeat("a\u20ac\nA", 50000)
	mustRead(t, `{"`+long+`":"`+long+`"}`, text(meant, meant))
	mustNotRead(t, api.ErrText, `{"`+long+`":"`+long)
	mustNotRead(t, api.ErrText, strings.Repeat("{", 1<<16))
	mustNotRead(t, api.ErrText, strings.Repeat(`{"a":`, 1<<16))
	if got, _ := jsonobj.Read(strings.Repeat(" ", 1<<20) + "{}"); !slices.Equal(got, nil) {
		t.Errorf("P4.3: members of an object without any: %v", got)
	}
}
