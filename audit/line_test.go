package audit_test

import (
	"fmt"
	"math"
	"slices"
	"strings"
	"testing"

	"usher/api"
	"usher/audit"
)

// named is the fields that a kind names.
func named(kind int) []string { return strings.Fields(columns[kind])[1:] }

// made is a record of that kind with all its fields and no others.
func made(kind int, value func(field string) any) api.Record {
	r := api.Record{Kind: kind}
	for _, field := range named(kind) {
		r = with(r, field, value(field))
	}
	return r
}

func usual(field string) any {
	return map[string]any{
		"ID": id(7), "User": "ann", "Client": "app", "Redirect": address, "Challenge": challenge,
		"Code": id(8), "Scopes": []string{"read", "write"}, "At": 300,
	}[field]
}

// least is the shortest or least value of each field.
func least(field string) any {
	return map[string]any{
		"ID": zeroID, "User": "!", "Client": "~", "Redirect": "a.:/", "Challenge": strings.Repeat("~", 43),
		"Code": zeroID, "Scopes": []string{"!"}, "At": 0,
	}[field]
}

// greatest is the longest or greatest value of each field.
func greatest(field string) any {
	return map[string]any{
		"ID": id(255), "User": strings.Repeat("~", 64), "Client": strings.Repeat("!", 64),
		"Redirect": "https://a/?" + strings.Repeat("=", 501), "Challenge": strings.Repeat("c", 128),
		"Code": id(255), "Scopes": scopes(16, 32), "At": lastTime,
	}[field]
}

// scopes is so many scopes of so many bytes, rising.
func scopes(count, size int) []string {
	list := make([]string, count)
	for i := range list {
		list[i] = string(rune('a'+i)) + strings.Repeat("s", size-1)
	}
	return list
}

// many is records of every kind that may be.
func many() []api.Record {
	var list []api.Record
	for kind := 1; kind <= 11; kind++ {
		list = append(list, made(kind, usual), made(kind, least), made(kind, greatest))
	}
	for count := 1; count <= 16; count++ {
		list = append(list, consent(anns, count, scopes(count, 5)...), code(fresh, anns, count, scopes(count, 1)...), token(fresh, fresh2, bobs, count, scopes(count, 2)...), refresh(fresh, fresh2, bobs, count, scopes(count, 3)...))
	}
	for _, at := range []int{0, 1, 9, 10, 99, 100, 1000000007, lastTime - 1, lastTime} {
		list = append(list, session(fresh, "ann", at))
	}
	for _, name := range []string{"transaction", "1", "0", "00", "-1", "session", "a,b;c", `"`, `\`, "-", ":", "'"} {
		list = append(list, session(fresh, name, 1), withdrawn(who{name, name}), consent(who{name, name}, 1, "x"))
	}
	for _, scope := range []string{"transaction", "1", "0", "00", "-1", "session", "a,b;c", "-", ":", "offline_access"} {
		list = append(list, consent(anns, 1, scope), token(fresh, fresh2, anns, 1, scope))
	}
	for _, uri := range []string{"https://a", "http://localhost:1/", "http://[::1]", "com.example.app:/cb?x=%20&y", "https://[2001:db8::1]:8443/?", "https://a.example:65535/;,!$'()*"} {
		r := code(fresh, anns, 1, "a")
		r.Redirect = uri
		list = append(list, r)
	}
	return list
}

// refused is records that may not be, for each reason.
func refused() []api.Record {
	wrong := map[string][]any{
		"ID":        {"", "A", zeroID[1:], zeroID + "A", zeroID[1:] + "B", zeroID[1:] + "=", zeroID[1:] + " ", "\n" + zeroID[1:], zeroID + " "},
		"Code":      {"", zeroID[1:], zeroID + "A", zeroID[1:] + "B", zeroID[1:] + "+"},
		"User":      {"", " ", "a b", "a ", " a", "a\n", "a\x7f", "\x00", "é", strings.Repeat("a", 65)},
		"Client":    {"", " ", "a b", "a ", " a", "a\t", "a\x1f", "\xff", strings.Repeat("a", 65)},
		"Redirect":  {"", "a", "http://a.example/", "https://a.example/ ", "https://a.example/#", "https://a.example:0/", "https://a.example:65536/", "example:/", " https://a", "https://a/?" + strings.Repeat("=", 502)},
		"Challenge": {"", challenge[1:], challenge[1:] + " ", challenge[1:] + "=", strings.Repeat("c", 129)},
		"Scopes":    {[]string{}, []string{""}, []string{"a", ""}, []string{"b", "a"}, []string{"a", "a"}, []string{"a b"}, []string{"a", "b c"}, []string{`a"`}, []string{`a\`}, []string{"a\n"}, []string{"é"}, scopes(17, 1), scopes(1, 33)},
		"At":        {-1, math.MinInt, lastTime + 1, math.MaxInt},
	}
	list := []api.Record{{}, {Kind: 12, ID: fresh}, {Kind: -1, ID: fresh}, {Kind: math.MaxInt}, {Kind: math.MinInt}, {Kind: 0, ID: fresh, User: "ann"}, {Kind: 258, ID: fresh}}
	for kind := 1; kind <= 11; kind++ {
		list = append(list, api.Record{Kind: kind})
		for _, field := range allFields {
			if !slices.Contains(named(kind), field) {
				list = append(list, with(made(kind, usual), field, usual(field)), with(made(kind, least), field, greatest(field)))
				continue
			}
			for _, value := range wrong[field] {
				list = append(list, with(made(kind, usual), field, value))
			}
		}
	}
	return list
}

// TestLines: each kind, as the chapter writes it.
func TestLines(t *testing.T) {
	for _, c := range []struct {
		r    api.Record
		want string
	}{
		{session(fresh, "ann", 5), "session " + fresh + " ann 5"},
		{ended(fresh), "ended " + fresh},
		{consent(anns, 0, "a", "b"), "consent ann app 0 a b"},
		{code(fresh, anns, lastTime, "a", "b", "c"), "code " + fresh + " ann app https://a.example/cb " + challenge + " 1099511627776 a b c"},
		{redeemed(fresh), "redeemed " + fresh},
		{token(fresh, fresh2, anns, 10, "a"), "token " + fresh + " ann app " + fresh2 + " 10 a"},
		{revoked(fresh), "revoked " + fresh},
		{burned(fresh), "burned " + fresh},
		{refresh(fresh, fresh2, anns, 100, "a", "b"), "refresh " + fresh + " ann app " + fresh2 + " 100 a b"},
		{turned(fresh), "turned " + fresh},
		{withdrawn(anns), "withdrawn ann app"},
	} {
		if got := mustWrite(t, c.r); got != c.want {
			t.Errorf("P25.4: of %v the model writes %q, want %q", c.r, got, c.want)
		}
	}
}

func TestManyLines(t *testing.T) {
	seen := map[string]bool{}
	for _, r := range many() {
		line := mustWrite(t, r)
		mustRead(t, line)
		if strings.Count(line, "\n") > 0 || strings.Contains(line, "  ") {
			t.Errorf("P25.4: the line %q", line)
		}
		seen[line] = true
	}
	if len(seen) < 140 {
		t.Errorf("%d lines: too few to tell", len(seen))
	}
}

// TestRefusedRecords: none has a line, and what would be its line is none, if it is not another one's.
func TestRefusedRecords(t *testing.T) {
	for _, r := range refused() {
		if modelCheck(r) {
			t.Fatalf("a test takes %v for a record that may not be", r)
		}
		mustNotWrite(t, r)
		if r.Kind >= 1 && r.Kind <= 11 {
			mustRead(t, modelLine(r))
		}
	}
}

// TestLinesOneByteAway: whatever is taken out, put in or changed.
func TestLinesOneByteAway(t *testing.T) {
	taken, left := 0, 0
	for kind := 1; kind <= 11; kind++ {
		changedAt(modelLine(made(kind, usual)), func(s string) {
			if mustRead(t, s) {
				taken++
			} else {
				left++
			}
		})
	}
	if taken < 1000 || left < 1000 {
		t.Errorf("%d lines were taken, %d not: too few to tell", taken, left)
	}
}

// TestLinesWithOtherWords: each word of a line taken out, doubled, changed for another word of any line, and with blanks around it.
func TestLinesWithOtherWords(t *testing.T) {
	var all []string
	for kind := 1; kind <= 11; kind++ {
		all = append(all, strings.Fields(modelLine(made(kind, usual)))...)
	}
	all = append(all, "", "00", "01", "+1", "-0", "Session", "SESSION", "transaction", "1", "nothing")
	slices.Sort(all)
	all = slices.Compact(all)
	for kind := 1; kind <= 11; kind++ {
		words := strings.Fields(modelLine(made(kind, usual)))
		for at := range len(words) + 1 {
			for _, word := range all {
				mustRead(t, strings.Join(slices.Insert(slices.Clone(words), at, word), " "))
				if at == len(words) {
					continue
				}
				changed := slices.Clone(words)
				changed[at] = word
				mustRead(t, strings.Join(changed, " "))
				mustRead(t, strings.Join(changed[:at+1], " "))
			}
			if at < len(words) {
				mustRead(t, strings.Join(slices.Delete(slices.Clone(words), at, at+1), " "))
				mustRead(t, strings.Join(slices.Insert(slices.Clone(words), at, words[at]), " "))
			}
			for _, blank := range []string{"  ", "\t", "\n", "\r\n", " \t", "\u00a0", ""} {
				mustRead(t, strings.Join(words[:at], " ")+blank+strings.Join(words[at:], " "))
			}
		}
	}
}

// TestNumbers: At is read in the one spelling in which it is written.
func TestNumbers(t *testing.T) {
	good := 0
	for _, number := range []string{
		"", "0", "1", "9", "10", "99", "1099511627775", "1099511627776", "1099511627777", "9999999999999", "10995116277760", "9223372036854775807", "9223372036854775808",
		"18446744073709551615", "18446744073709551616", "18446744073709551617", strings.Repeat("9", 100), strings.Repeat("0", 100) + "1",
		"00", "01", "010", "-0", "-1", "+0", "+1", "--1", "1-", "1_0", "_1", "0x1", "0b1", "0o1", "1e3", "1.", "1.0", ".1", "1,0", "a", "1a", "\x00", "1\x00", "١", "-9223372036854775808", "-1099511627776", "~1", "0 ", " 0", "\t1",
	} {
		for _, line := range []string{"session " + fresh + " ann " + number, "consent ann app " + number + " a", "token " + fresh + " ann app " + fresh2 + " " + number + " a b"} {
			if mustRead(t, line) {
				good++
			}
		}
	}
	if good != 3*7 {
		t.Errorf("%d numbers were taken", good)
	}
}

// TestListsOfScopes: 1 to 16, rising, each once.
func TestListsOfScopes(t *testing.T) {
	const head = "consent ann app 0"
	for _, c := range []struct {
		rest string
		want bool
	}{
		{"", false}, {" ", false}, {"  ", false}, {" a", true}, {" a ", false}, {"  a", false}, {" a  b", false}, {" a b", true}, {" b a", false}, {" a a", false},
		{" a b c", true}, {" a c b", false}, {" b c a", false}, {" a b b", false}, {" a b a", false}, {" A a", true}, {" a A", false}, {" a aa ab b", true}, {" aa a", false},
		{" ! # [ ]", true}, {` a"`, false}, {` \`, false}, {" é", false}, {" " + strings.Repeat("a", 32), true}, {" " + strings.Repeat("a", 33), false},
		{" " + strings.Join(scopes(16, 32), " "), true}, {" " + strings.Join(scopes(17, 1), " "), false}, {" " + strings.Join(scopes(18, 1), " "), false},
		{" " + strings.Join(scopes(16, 1), " ") + " ", false}, {" " + strings.Join(scopes(16, 1), " ") + "  q", false}, {" " + strings.Join(scopes(15, 1), " ") + " o", false}, {" a\nb", false}, {" 1 10 2", true}, {" 1 2 10", false},
	} {
		if got := mustRead(t, head+c.rest); got != c.want {
			t.Errorf("P25.5: %q is taken: %v, want %v", head+c.rest, got, c.want)
		}
	}
}

// TestTextsThatAreNoLines: with words of no kind, of many words, and of no words.
func TestTextsThatAreNoLines(t *testing.T) {
	list := []string{"", " ", "  ", "\n", "\x00", "transaction 1", "transaction", "nothing", "0", "1 " + fresh, " " + modelLine(ended(fresh)), modelLine(ended(fresh)) + "\n", modelLine(ended(fresh)) + "\x00", everyByte()}
	for _, kind := range []string{"session", "ended", "consent", "code", "redeemed", "token", "revoked", "burned", "refresh", "turned", "withdrawn"} {
		list = append(list, kind, kind+" ", kind+"  ", strings.ToUpper(kind)+" "+fresh, kind[:len(kind)-1]+" "+fresh, kind+"s "+fresh, kind+fresh)
	}
	for _, s := range list {
		if mustRead(t, s) {
			t.Errorf("P25.5: %q is taken", s)
		}
	}
}

// TestLinesUndoOneAnother: two records have two lines, two lines two records.
func TestLinesUndoOneAnother(t *testing.T) {
	lines := map[string]string{}
	for _, r := range many() {
		line, _ := audit.Line(r)
		told := fmt.Sprintf("%q", fmt.Sprint(r))
		if other, ok := lines[line]; ok && other != told {
			t.Errorf("P25.4: %s and %s have one line", told, other)
		}
		lines[line] = told
	}
}
