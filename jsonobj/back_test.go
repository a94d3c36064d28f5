package jsonobj_test

import (
	"fmt"
	"math/rand"
	"slices"
	"strings"
	"testing"
	"unicode/utf16"

	"usher/api"
	"usher/jsonobj"
)

func TestWhatIsWrittenIsReadBack(t *testing.T) {
	random := rand.New(rand.NewSource(7))
	for round := range 4000 {
		list := someMembers(random, round%33)
		written, err := jsonobj.Object(list)
		got, readErr := jsonobj.Read(written)
		if err != nil || readErr != nil || !slices.Equal(got, list) {
			t.Fatalf("P4.4: Object(%#v) = %q, %v, which is read as %#v, %v", list, written, err, got, readErr)
		}
	}
}

func TestTheFieldsThatTheKindsDoNotNameAreZero(t *testing.T) {
	list := []api.Member{
		{Name: "a", Kind: api.MemText, Text: "x", Num: 1, Flag: true},
		{Name: "b", Kind: api.MemNum, Text: "\xff", Num: 2, Flag: true},
		{Name: "c", Kind: api.MemFlag, Text: "\xff", Num: 3, Flag: true},
	}
	written, err := jsonobj.Object(list)
	if err != nil {
		t.Fatalf("P4.4: Object(%#v): %v", list, err)
	}
	mustRead(t, written, text("a", "x"), num("b", 2), flag("c", true))
}

// spelt is a text that says the same as the members, in one of its many spellings.
func spelt(random *rand.Rand, list []api.Member) string {
	blank := func() string { return strings.Repeat(blanks[random.Intn(4):], random.Intn(2)) }
	quoted := func(s string) string {
		written := `"`
		for _, char := range s {
			short := strings.IndexRune("\"\\/\b\f\n\r\t", char)
			switch units := utf16.Encode([]rune{char}); {
			case short >= 0 && random.Intn(2) == 0:
				written += `\` + `"\/bfnrt`[short:short+1]
			case char < 0x20 || char == '"' || char == '\\' || random.Intn(3) == 0:
				for _, unit := range units {
					written += fmt.Sprintf([]string{`\u%04x`, `\u%04X`}[random.Intn(2)], unit)
				}
			default:
				written += string(char)
			}
		}
		return written + `"`
	}
	s := blank() + "{" + blank()
	for i, member := range list {
		if i > 0 {
			s += "," + blank()
		}
		s += quoted(member.Name) + blank() + ":" + blank()
		switch member.Kind {
		case api.MemText:
			s += quoted(member.Text)
		case api.MemNum:
			if member.Num == 0 && random.Intn(2) == 0 {
				s += "-"
			}
			s += fmt.Sprint(member.Num)
		case api.MemFlag:
			s += fmt.Sprint(member.Flag)
		}
		s += blank()
	}
	return s + "}" + blank()
}

func TestWhatIsReadCanBeWritten(t *testing.T) {
	random := rand.New(rand.NewSource(8))
	for round := range 4000 {
		list := someMembers(random, round%33)
		s := spelt(random, list)
		read, err := jsonobj.Read(s)
		if err != nil || !slices.Equal(read, list) {
			t.Fatalf("P4.3: Read(%q) = %#v, %v, want %#v", s, read, err, list)
		}
		written, err := jsonobj.Object(read)
		again, againErr := jsonobj.Read(written)
		if err != nil || againErr != nil || !slices.Equal(again, read) {
			t.Fatalf("P4.4: Object(%#v) = %q, %v, which is read as %#v, %v", read, written, err, again, againErr)
		}
	}
}
