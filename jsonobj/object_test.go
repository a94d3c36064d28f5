package jsonobj_test

import (
	"encoding/json"
	"strconv"
	"strings"
	"testing"

	"usher/api"
	"usher/jsonobj"
)

func TestObjectExamples(t *testing.T) {
	mustObject(t, `{"active":true,"exp":30}`, flag("active", true), num("exp", 30))
	mustObject(t, `{}`)
	mustObject(t, `{}`, []api.Member{}...)
	mustNotObject(t, api.ErrTwice, num("a", 1), text("a", "x"))
	mustNotObject(t, api.ErrMany, make([]api.Member, 33)...)
}

func TestObjectOfEachKind(t *testing.T) {
	mustObject(t, `{"a":""}`, text("a", ""))
	mustObject(t, `{"":"b c"}`, text("", "b c"))
	mustObject(t, `{"\"\n":"\\\u0001"}`, text("\"\n", "\\\x01"))
	mustObject(t, "{\"\u00e9\":\"\U0001f600/\"}", text("\u00e9", "\U0001f600/"))
	mustObject(t, `{"a":true,"b":false}`, flag("a", true), flag("b", false))
	mustObject(t, `{"b":1,"a":"true","":false}`, num("b", 1), text("a", "true"), flag("", false))
	for _, number := range edgeNumbers {
		mustObject(t, `{"n":`+strconv.Itoa(number)+`}`, num("n", number))
	}
	mustObject(t, `{"n":-9223372036854775808,"m":9223372036854775807,"z":0}`, num("n", -1<<63), num("m", 1<<63-1), num("z", 0))
}

func TestObjectLooksAtTheFieldOfTheKindAlone(t *testing.T) {
	mustObject(t, `{"a":1}`, api.Member{Name: "a", Kind: api.MemNum, Text: "\xff", Num: 1, Flag: true})
	mustObject(t, `{"a":"x"}`, api.Member{Name: "a", Kind: api.MemText, Text: "x", Num: 1, Flag: true})
	mustObject(t, `{"a":false}`, api.Member{Name: "a", Kind: api.MemFlag, Text: "\xff", Num: 1})
	mustObject(t, `{"a":true}`, api.Member{Name: "a", Kind: api.MemFlag, Text: "\xff", Flag: true})
}

func TestObjectUpToTheLimit(t *testing.T) {
	for count := range 33 {
		list := numbered(count)
		written, err := jsonobj.Object(list)
		var got map[string]any
		if readErr := json.Unmarshal([]byte(written), &got); err != nil || readErr != nil || len(got) != count {
			t.Errorf("P4.2: %d members: %q, %v, which the standard library reads as %v, %v", count, written, err, got, readErr)
		}
		if strings.Trim(written, " \t\r\n") != written || strings.Contains(written, ": ") || strings.Contains(written, ", ") {
			t.Errorf("P4.2: there are blanks in %q", written)
		}
	}
	mustObject(t, `{"m0":0,"m1":"m1","m2":true,"m3":3,"m4":"m4","m5":false}`, numbered(6)...)
	mustNotObject(t, api.ErrMany, numbered(33)...)
	mustNotObject(t, api.ErrMany, numbered(34)...)
	mustNotObject(t, api.ErrMany, numbered(1000)...)
}

func TestObjectRefusesKinds(t *testing.T) {
	for _, kind := range []int{0, 4, 5, -1, -2, 1 << 32, 1<<32 + 1, 1<<63 - 1, -1 << 63} {
		mustNotObject(t, api.ErrArg, api.Member{Name: "a", Kind: kind})
		mustNotObject(t, api.ErrArg, num("b", 1), api.Member{Name: "a", Kind: kind, Text: "x"})
	}
}

func TestObjectRefusesTexts(t *testing.T) {
	for _, wrong := range []string{"\xff", "\x80", "a\xc2", "\xc0\x80", "\xed\xa0\x80", "\xf4\x90\x80\x80", "\xe2\x82"} {
		mustNotObject(t, api.ErrText, text("a", wrong))
		mustNotObject(t, api.ErrText, num("b", 1), text("a", "x"+wrong))
		for _, member := range []api.Member{text(wrong, "a"), num(wrong, 1), flag(wrong, true)} {
			mustNotObject(t, api.ErrText, member)
			mustNotObject(t, api.ErrText, text("a", "a"), member)
			mustNotObject(t, api.ErrText, member, text("a", "a"))
		}
	}
}

func TestObjectRefusesANameTwice(t *testing.T) {
	list := numbered(32)
	for i := range list {
		for j := range i {
			twice := append([]api.Member(nil), list...)
			twice[i].Name = twice[j].Name
			mustNotObject(t, api.ErrTwice, twice...)
		}
	}
	mustNotObject(t, api.ErrTwice, text("", "a"), text("", "a"))
	mustObject(t, `{"a":1,"A":1,"":1,"aa":1,"a\u0000":1}`, num("a", 1), num("A", 1), num("", 1), num("aa", 1), num("a\x00", 1))
}

func TestObjectOrderOfRefusals(t *testing.T) {
	noKind := api.Member{Name: "a"}
	noText := text("a", "\xff")
	noName := num("\xff", 1)
	mustNotObject(t, api.ErrMany, append(numbered(30), noText, noKind, noKind)...)
	mustNotObject(t, api.ErrMany, append(numbered(31), num("m0", 1), num("m1", 1))...)
	mustNotObject(t, api.ErrMany, append(numbered(32), noName)...)
	mustNotObject(t, api.ErrArg, noText, num("a", 1), noKind)
	mustNotObject(t, api.ErrArg, noName, noName, noKind)
	mustNotObject(t, api.ErrArg, num("b", 1), num("b", 2), api.Member{Name: "\xff", Kind: 4})
	mustNotObject(t, api.ErrText, num("b", 1), num("b", 2), noText)
	mustNotObject(t, api.ErrText, noName, noName)
	mustNotObject(t, api.ErrTwice, num("b", 1), num("c", 1), text("b", "\u00e9"))
}
