package record_test

import (
	"math"
	"slices"
	"strings"
	"testing"

	"usher/api"
	"usher/radix"
)

// mustTakeIn puts a value into a field of every kind that names it, and fails unless the record may or may not be so.
func mustTakeIn(t *testing.T, field string, value any, mayBe bool) {
	t.Helper()
	for kind, fields := range layouts {
		if !slices.Contains(fields, field) {
			continue
		}
		for _, r := range []api.Record{with(made(kind, usual), field, value), with(made(kind, greatest), field, value)} {
			if mayBe {
				mustTake(t, r)
			} else {
				mustNotTake(t, r)
			}
		}
	}
}

func TestEveryKind(t *testing.T) {
	for _, r := range append(usualRecords(), greatestRecords()...) {
		mustTake(t, r)
	}
}

// TestNumbersOfKinds: that of the constants is that of the chapter's table.
func TestNumbersOfKinds(t *testing.T) {
	kinds := []int{api.RecSession, api.RecEnded, api.RecConsent, api.RecCode, api.RecRedeemed, api.RecToken, api.RecRevoked, api.RecBurned, api.RecRefresh, api.RecTurned, api.RecWithdrawn}
	for i, kind := range kinds {
		if kind != i+1 {
			t.Errorf("kind %d is %d", i+1, kind)
		}
	}
}

// TestNoSuchKind also takes kinds whose lowest byte or bits are those of a kind.
func TestNoSuchKind(t *testing.T) {
	kinds := []int{0, 12, 13, 16, 127, 128, -1, -5, -11, math.MinInt, math.MaxInt}
	for kind := 1; kind <= 11; kind++ {
		kinds = append(kinds, kind+128, kind+256, kind+1<<32, kind-256, -kind)
	}
	for _, kind := range kinds {
		mustNotTake(t, api.Record{Kind: kind})
		for _, r := range append(usualRecords(), greatestRecords()...) {
			r.Kind = kind
			mustNotTake(t, r)
		}
	}
}

// TestFieldsOfOtherKinds: a field that the kind names must be there, any other one must not.
func TestFieldsOfOtherKinds(t *testing.T) {
	zeros := map[string]any{"Scopes": []string(nil), "At": 0}
	for kind := 1; kind <= 11; kind++ {
		r := made(kind, usual)
		for _, field := range allFields {
			if !slices.Contains(layouts[kind], field) {
				mustNotTake(t, with(r, field, usual(field)))
				mustNotTake(t, with(r, field, greatest(field)))
				continue
			}
			zero, ok := zeros[field]
			if !ok {
				zero = ""
			}
			if field != "At" {
				mustNotTake(t, with(r, field, zero))
			}
		}
	}
}

// TestOneFieldTooMany: the least that may stand there is too much.
func TestOneFieldTooMany(t *testing.T) {
	for kind := 1; kind <= 11; kind++ {
		for _, field := range allFields {
			if slices.Contains(layouts[kind], field) {
				continue
			}
			var least []any
			switch field {
			case "At":
				least = []any{1, -1, math.MinInt}
			case "Scopes":
				least = []any{[]string{""}, []string{"a"}, make([]string, 17)}
			default:
				least = []any{"a", "\x00", " "}
			}
			for _, value := range least {
				mustNotTake(t, with(made(kind, usual), field, value))
			}
		}
	}
}

// TestEveryKindAsAnother: the fields of one kind under the number of another are a record only where both name the same ones.
func TestEveryKindAsAnother(t *testing.T) {
	for from := 1; from <= 11; from++ {
		for to := 1; to <= 11; to++ {
			r := made(from, usual)
			r.Kind = to
			if slices.Equal(layouts[from], layouts[to]) {
				mustTake(t, r)
			} else {
				mustNotTake(t, r)
			}
		}
	}
}

func TestEmptyListOfScopes(t *testing.T) {
	roomy := make([]string, 0, 5)
	for kind := 1; kind <= 11; kind++ {
		for _, none := range [][]string{nil, {}, roomy} {
			r := made(kind, usual)
			r.Scopes = none
			if slices.Contains(layouts[kind], "Scopes") {
				mustNotTake(t, r)
			} else {
				mustTake(t, r)
			}
		}
	}
}

func TestLengthsOfIdentifiers(t *testing.T) {
	for _, field := range []string{"ID", "Code"} {
		for size := range 130 {
			mustTakeIn(t, field, strings.Repeat("A", size), size == 43)
		}
		for _, size := range []int{31, 33, 64} {
			mustTakeIn(t, field, radix.Url(strings.Repeat("\x5a", size)), false)
		}
	}
}

// TestLettersOfIdentifiers: the last letter may hold four bits alone, and nothing but letters of base64url stands anywhere.
func TestLettersOfIdentifiers(t *testing.T) {
	const letters = "ABCDEFGHIJKLMNOPQRSTUVWXYZabcdefghijklmnopqrstuvwxyz0123456789-_"
	for _, field := range []string{"ID", "Code"} {
		for _, b := range []byte(everyByte()) {
			isLetter := strings.IndexByte(letters, b) >= 0
			one := string([]byte{b})
			mustTakeIn(t, field, one+zeroID[1:], isLetter)
			mustTakeIn(t, field, zeroID[:20]+one+zeroID[21:], isLetter)
			mustTakeIn(t, field, zeroID[:42]+one, isLetter && strings.IndexByte(letters, b)%4 == 0)
		}
		mustTakeIn(t, field, zeroID[:42]+"=", false)
		mustTakeIn(t, field, zeroID+"=", false)
		mustTakeIn(t, field, zeroID+"\n", false)
	}
}

func TestNames(t *testing.T) {
	for _, field := range []string{"User", "Client"} {
		for _, size := range []int{0, 1, 2, 63, 64, 65, 66, 127, 128, 129} {
			mustTakeIn(t, field, strings.Repeat("n", size), size >= 1 && size <= 64)
		}
		for _, b := range []byte(everyByte()) {
			one := string([]byte{b})
			isFit := b >= 0x21 && b <= 0x7e
			mustTakeIn(t, field, one, isFit)
			mustTakeIn(t, field, "a"+one, isFit)
		}
		mustTakeIn(t, field, "a:b", true)
		mustTakeIn(t, field, "é", false)
	}
}

func TestAddresses(t *testing.T) {
	for _, address := range []string{
		"https://a", "https://app.example/cb?x=%2f", "https://[2001:db8::1]:8443/", "http://localhost:8080/cb",
		"http://127.0.0.1/", "http://[::1]", "com.example.app:/cb", longAddress(127), longAddress(128), longAddress(511), longAddress(512),
	} {
		mustTakeIn(t, "Redirect", address, true)
	}
	for _, address := range []string{
		"", "https://", "http://app.example/cb", "http://localhostx/", "example:/cb", "com.example.app://cb", "com.example.app:cb",
		"https://u@app.example/", "https://app.example/#f", "https://app.example/%2", "https://app.example:0/", "HTTPS://a/", " https://a", "https://a\n", longAddress(513), longAddress(600),
	} {
		mustTakeIn(t, "Redirect", address, false)
	}
}

func TestChallenges(t *testing.T) {
	for _, size := range []int{0, 1, 42, 43, 44, 127, 128, 129, 130} {
		mustTakeIn(t, "Challenge", strings.Repeat("~", size), size >= 43 && size <= 128)
	}
	for _, b := range []byte(everyByte()) {
		text := string([]byte{b}) + proof[1:]
		mustTakeIn(t, "Challenge", text, wholeProof.MatchString(text))
	}
}

func TestNumbersOfScopes(t *testing.T) {
	for count := range 40 {
		mustTakeIn(t, "Scopes", longScopes(count, 1), count >= 1 && count <= 16)
		mustTakeIn(t, "Scopes", longScopes(count, 32), count >= 1 && count <= 16)
	}
}

func TestOrderOfScopes(t *testing.T) {
	for _, list := range [][]string{{"a"}, {"a", "b"}, {"a", "aa"}, {"A", "a"}, {"a!", "aa", "b"}, {"!", "~"}, {"a", "a!"}, {"#", "[", "]"}} {
		mustTakeIn(t, "Scopes", list, true)
	}
	for _, list := range [][]string{{"a", "a"}, {"b", "a"}, {"aa", "a"}, {"a", "A"}, {"a", "b", "b"}, {"a", "a", "b"}, {"a", "c", "b"}, {"b", "a", "c"}, {"a", "b", "a"}, {"a!", "a"}} {
		mustTakeIn(t, "Scopes", list, false)
	}
	full := longScopes(16, 32)
	for i := range 15 {
		turned := slices.Clone(full)
		turned[i], turned[i+1] = turned[i+1], turned[i]
		mustTakeIn(t, "Scopes", turned, false)
		turned[i] = turned[i+1]
		mustTakeIn(t, "Scopes", turned, false)
	}
}

func TestEachScope(t *testing.T) {
	for _, size := range []int{1, 31, 32} {
		mustTakeIn(t, "Scopes", []string{strings.Repeat("s", size)}, true)
	}
	for _, b := range []byte(everyByte()) {
		one := string([]byte{b})
		isFit := b >= 0x21 && b <= 0x7e && b != '"' && b != '\\'
		mustTakeIn(t, "Scopes", []string{one}, isFit)
		mustTakeIn(t, "Scopes", []string{"s" + one + "s"}, isFit)
	}
	wrong := []string{"", "a b", "a a", " a", "a ", " ", strings.Repeat("s", 33), strings.Repeat("s", 32) + " s", "é"}
	for _, text := range wrong {
		mustTakeIn(t, "Scopes", []string{text}, false)
		for place := range 3 {
			list := []string{"\x21", "m", "~"}
			list[place] = text
			slices.Sort(list)
			mustTakeIn(t, "Scopes", list, false)
		}
	}
}

func TestTimes(t *testing.T) {
	for _, at := range []int{0, 1, 127, 128, 300, 16383, 16384, 1<<32 - 1, 1 << 32, 1099511627775, 1099511627776} {
		mustTakeIn(t, "At", at, true)
	}
	for _, at := range []int{-1, -128, 1099511627777, 1 << 41, 1 << 62, math.MaxInt, math.MinInt, math.MinInt + 1, -1099511627776} {
		mustTakeIn(t, "At", at, false)
	}
}
