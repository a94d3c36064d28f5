package field_test

import (
	"math"
	"strconv"
	"strings"
	"testing"

	"usher/api"
)

const lastAttributes = "; Secure; HttpOnly; SameSite=Lax"

func TestTheExamplesOfSetCookie(t *testing.T) {
	mustSet(t, api.Cookie{Name: "sid", Value: "x", MaxAge: -1}, "sid=x; Path=/; Secure; HttpOnly; SameSite=Lax")
	mustSet(t, api.Cookie{Name: "sid"}, "sid=; Path=/; Max-Age=0; Secure; HttpOnly; SameSite=Lax")
	mustNotReadSet(t, "sid=x; Path=/; Max-Age=00; Secure; HttpOnly; SameSite=Lax")
}

func TestAgesOfCookies(t *testing.T) {
	for _, age := range []int{math.MinInt, math.MinInt + 1, -100, -2, -1} {
		mustSet(t, api.Cookie{Name: "a", Value: "b", MaxAge: age}, "a=b; Path=/"+lastAttributes)
	}
	for _, age := range []int{0, 1, 9, 10, 11, 99, 100, 86400, 1 << 30, math.MaxInt - 1, math.MaxInt} {
		mustSet(t, api.Cookie{Name: "a", Value: "b", MaxAge: age}, "a=b; Path=/; Max-Age="+strconv.Itoa(age)+lastAttributes)
	}
}

func TestEveryByteInSetCookie(t *testing.T) {
	for n := range 256 {
		char := oneByte(n)
		if wholeCookie.MatchString(wide(char)) {
			mustSet(t, api.Cookie{Name: "a", Value: char, MaxAge: 5}, "a="+char+"; Path=/; Max-Age=5"+lastAttributes)
			mustSet(t, api.Cookie{Name: "a", Value: "x" + char, MaxAge: -1}, "a=x"+char+"; Path=/"+lastAttributes)
		} else {
			mustNotSet(t, api.Cookie{Name: "a", Value: char, MaxAge: 5})
			mustNotSet(t, api.Cookie{Name: "a", Value: "x" + char + "y", MaxAge: -1})
			mustNotReadSet(t, "a=x"+char+"; Path=/"+lastAttributes)
		}
		if strings.Contains(tokenBytes, char) {
			mustSet(t, api.Cookie{Name: char, Value: "v", MaxAge: 5}, char+"=v; Path=/; Max-Age=5"+lastAttributes)
		} else {
			mustNotSet(t, api.Cookie{Name: char, Value: "v", MaxAge: 5})
			mustNotSet(t, api.Cookie{Name: "x" + char, MaxAge: -1})
		}
	}
}

func TestCookiesThatAreNotSet(t *testing.T) {
	for _, c := range []api.Cookie{{}, {Value: "v"}, {MaxAge: -1}, {Name: " "}, {Name: "a b"}, {Name: "a="}, {Name: "a", Value: ";"}, {Name: "a", Value: " "}, {Name: "a", Value: "\"\""}, {Name: "a", Value: "b; Path=/x"}, {Name: "a", Value: "\r\nX: y"}, {Name: "a", Value: "\u00e9"}} {
		mustNotSet(t, c)
	}
}

func TestOtherSpellingsOfSetCookie(t *testing.T) {
	for _, v := range []string{
		"", "a", "a=b", "=b; Path=/" + lastAttributes, "a; Path=/" + lastAttributes, "a=b; Path=/", "a=b" + lastAttributes, "a=b; Max-Age=1" + lastAttributes,
		"a=b; Path=/" + lastAttributes + ";", "a=b; Path=/" + lastAttributes + " ", " a=b; Path=/" + lastAttributes, "a=b ; Path=/" + lastAttributes, "a=b;Path=/" + lastAttributes, "a=b;  Path=/" + lastAttributes,
		"a=b; Max-Age=1; Path=/" + lastAttributes, "a=b; Path=/; Secure; Max-Age=1; HttpOnly; SameSite=Lax", "a=b; Path=/; HttpOnly; Secure; SameSite=Lax", "a=b; Path=/" + lastAttributes + "; Max-Age=1", "a=b; Path=/; Max-Age=1; Max-Age=1" + lastAttributes,
		"a=b; path=/" + lastAttributes, "a=b; Path=/; max-age=1" + lastAttributes, "a=b; Path=/; secure; HttpOnly; SameSite=Lax", "a=b; Path=/; Secure; HttpOnly; SameSite=lax", "a=b; Path=/x" + lastAttributes, "a=\"b\"; Path=/" + lastAttributes, "a=b; Path=/; Secure; HttpOnly; SameSite=Strict",
	} {
		mustNotReadSet(t, v)
	}
}

func TestOtherSpellingsOfAnAge(t *testing.T) {
	for _, number := range []string{"", "-1", "-0", "-9", "+1", "00", "01", "007", " 1", "1 ", "1_000", "0x1", "1e3", "1.0", "a", "\u0661", "9223372036854775808", "9223372036854775809", "10000000000000000000", "18446744073709551616", "99999999999999999999", "-9223372036854775808", "-9223372036854775809", "09223372036854775807", strings.Repeat("9", 1000), strings.Repeat("0", 1000), "1\x00", "1;", ";1", "="} {
		mustNotReadSet(t, "a=b; Path=/; Max-Age="+number+lastAttributes)
	}
}

func TestSetCookieWithOneByteChanged(t *testing.T) {
	for _, v := range []string{"sid=x; Path=/; Max-Age=10" + lastAttributes, "s=; Path=/; Max-Age=0" + lastAttributes, "sid=x=; Path=/" + lastAttributes, "a=b; Path=/; Max-Age=9223372036854775807" + lastAttributes} {
		changedAt(v, func(changed string) { mustReadSetAsExpected(t, changed) })
	}
}

func TestSetCookieInOtherOrders(t *testing.T) {
	parts := []string{"a=b", "; Path=/", "; Max-Age=", "1", "0", "; Secure", "; HttpOnly; SameSite=Lax"}
	grow("", parts, 6, func(v string) { mustReadSetAsExpected(t, v) })
}
