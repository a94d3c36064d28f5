package jsonobj_test

import (
	"encoding/json"
	"math/rand"
	"regexp"
	"slices"
	"strconv"
	"testing"
	"unicode/utf8"

	"usher/api"
	"usher/jsonobj"
)

func text(name, value string) api.Member {
	return api.Member{Name: name, Kind: api.MemText, Text: value}
}

func num(name string, value int) api.Member {
	return api.Member{Name: name, Kind: api.MemNum, Num: value}
}

func flag(name string, value bool) api.Member {
	return api.Member{Name: name, Kind: api.MemFlag, Flag: value}
}

// numbered is so many members, of all three kinds in turn, with names of their own.
func numbered(count int) []api.Member {
	var list []api.Member
	for i := range count {
		name := "m" + strconv.Itoa(i)
		list = append(list, []api.Member{num(name, i), text(name, name), flag(name, i%2 == 0)}[i%3])
	}
	return list
}

// edgeBytes are those at which a row of the table of characters begins or ends, and the neighbours of these.
const edgeBytes = "\x00\x1f\x20\x7f\x80\x8f\x90\x9f\xa0\xbf\xc0\xc1\xc2\xdf\xe0\xe1\xec\xed\xee\xef\xf0\xf1\xf3\xf4\xf5\xff"

// characterRows is the chapter's table of characters: for each row the first and the last value of each of its bytes.
var characterRows = []string{
	"\x00\x7f",
	"\xc2\xdf\x80\xbf",
	"\xe0\xe0\xa0\xbf\x80\xbf",
	"\xe1\xec\x80\xbf\x80\xbf",
	"\xee\xef\x80\xbf\x80\xbf",
	"\xed\xed\x80\x9f\x80\xbf",
	"\xf0\xf0\x90\xbf\x80\xbf\x80\xbf",
	"\xf1\xf3\x80\xbf\x80\xbf\x80\xbf",
	"\xf4\xf4\x80\x8f\x80\xbf\x80\xbf",
}

// plain is whether a text is one by the chapter's table.
func plain(s string) bool {
	for s != "" {
		size := characterSize(s)
		if size == 0 {
			return false
		}
		s = s[size:]
	}
	return true
}

func characterSize(s string) int {
	for _, row := range characterRows {
		size := len(row) / 2
		fits := len(s) >= size
		for i := 0; fits && i < size; i++ {
			fits = row[2*i] <= s[i] && s[i] <= row[2*i+1]
		}
		if fits {
			return size
		}
	}
	return 0
}

// The form of an object as expressions, for a text that is plain.
const (
	blanksForm = "[ \t\n\r]*"
	numberForm = `-?(?:0|[1-9][0-9]*)`
	hexForm    = `[0-9a-fA-F]`
	unitForm   = `\\u(?:[0-9a-ce-fA-CE-F]` + hexForm + `{3}|[dD][0-7]` + hexForm + `{2})`
	pairForm   = `\\u[dD][89abAB]` + hexForm + `{2}\\u[dD][c-fC-F]` + hexForm + `{2}`
	quotedForm = `"(?:[^"\\\x00-\x1f]|\\["\\/bfnrt]|` + unitForm + `|` + pairForm + `)*"`
	memberForm = `(` + quotedForm + `)` + blanksForm + `:` + blanksForm + `(` + quotedForm + `|` + numberForm + `|true|false)`
)

var (
	wholeMember = regexp.MustCompile(memberForm)
	wholeObject = regexp.MustCompile(`\A` + blanksForm + `\{` + blanksForm + `(?:` + memberForm + blanksForm + `(?:,` + blanksForm + memberForm + blanksForm + `)*)?\}` + blanksForm + `\z`)
)

// expected is what Read is to answer, found in another way: by expressions, and by the standard library for what is quoted.
func expected(s string) ([]api.Member, error) {
	if !utf8.ValidString(s) || !wholeObject.MatchString(s) {
		return nil, api.ErrText
	}
	var list []api.Member
	names := map[string]int{}
	for _, found := range wholeMember.FindAllStringSubmatch(s, -1) {
		var name, value string
		if json.Unmarshal([]byte(found[1]), &name) != nil {
			return nil, api.ErrText
		}
		names[name]++
		switch found[2][0] {
		case '"':
			if json.Unmarshal([]byte(found[2]), &value) != nil {
				return nil, api.ErrText
			}
			list = append(list, text(name, value))
		case 't', 'f':
			list = append(list, flag(name, found[2] == "true"))
		default:
			number, err := strconv.ParseInt(found[2], 10, 64)
			if err != nil {
				return nil, api.ErrText
			}
			list = append(list, num(name, int(number)))
		}
	}
	if len(list) > 32 {
		return nil, api.ErrMany
	}
	if len(names) < len(list) {
		return nil, api.ErrTwice
	}
	return list, nil
}

func mustQuote(t *testing.T, s, want string) {
	t.Helper()
	if got, err := jsonobj.Quote(s); got != want || err != nil {
		t.Errorf("P4.1: Quote(%q) = %q, %v, want %q", s, got, err, want)
	}
}

func mustNotQuote(t *testing.T, s string) {
	t.Helper()
	if got, err := jsonobj.Quote(s); got != "" || err != api.ErrText {
		t.Errorf("P4.1: Quote(%q) = %q, %v, want nothing and ErrText", s, got, err)
	}
}

func mustObject(t *testing.T, want string, list ...api.Member) {
	t.Helper()
	if got, err := jsonobj.Object(list); got != want || err != nil {
		t.Errorf("P4.2: Object(%#v) = %q, %v, want %q", list, got, err, want)
	}
}

func mustNotObject(t *testing.T, want error, list ...api.Member) {
	t.Helper()
	if got, err := jsonobj.Object(list); got != "" || err != want {
		t.Errorf("P4.2: Object(%#v) = %q, %v, want nothing and %v", list, got, err, want)
	}
}

func mustRead(t *testing.T, s string, want ...api.Member) {
	t.Helper()
	if got, err := jsonobj.Read(s); !slices.Equal(got, want) || err != nil {
		t.Errorf("P4.3: Read(%q) = %#v, %v, want %#v", s, got, err, want)
	}
}

func mustNotRead(t *testing.T, want error, s string) {
	t.Helper()
	if got, err := jsonobj.Read(s); got != nil || err != want {
		t.Errorf("P4.3: Read(%q) = %#v, %v, want nil and %v", s, got, err, want)
	}
}

func mustReadAsExpected(t *testing.T, s string) {
	t.Helper()
	want, wantErr := expected(s)
	if got, err := jsonobj.Read(s); !slices.Equal(got, want) || err != wantErr {
		t.Errorf("P4.3: Read(%q) = %#v, %v, want %#v, %v", s, got, err, want, wantErr)
	}
}

// characters are plain ones of every size, and those that are written in a way of their own.
var characters = []string{"a", "Z", "0", " ", "/", "\x7f", "\"", "\\", "\b", "\t", "\n", "\f", "\r", "\x00", "\x01", "\x0b", "\x1f", "\u0080", "\u00e9", "\u07ff", "\u0800", "\u2028", "\ud7ff", "\ue000", "\ufffd", "\uffff", "\U00010000", "\U0001f600", "\U0010ffff"}

func somePlain(random *rand.Rand, most int) string {
	s := ""
	for range random.Intn(most + 1) {
		s += characters[random.Intn(len(characters))]
	}
	return s
}

var edgeNumbers = []int{0, 1, -1, 9, 10, -10, 30, 3600, 1 << 40, 1<<63 - 1, -1 << 63}

// someMembers is a list of so many members with names of their own, the same ones for the same seed.
func someMembers(random *rand.Rand, count int) []api.Member {
	var list []api.Member
	for i := range count {
		name := somePlain(random, 4) + "." + strconv.Itoa(i)
		list = append(list, []api.Member{
			text(name, somePlain(random, 8)),
			num(name, edgeNumbers[random.Intn(len(edgeNumbers))]),
			flag(name, random.Intn(2) == 0),
		}[random.Intn(3)])
	}
	return list
}
