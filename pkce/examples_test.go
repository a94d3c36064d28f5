package pkce_test

import (
	"strings"
	"testing"

	"usher/api"
	"usher/pkce"
)

// TestExamples goes down the chapter's table.
func TestExamples(t *testing.T) {
	a := strings.Repeat("a", 129)
	mustProof(t, a[:42], false)
	mustProof(t, a[:43], true)
	mustProof(t, a[:128], true)
	mustProof(t, a, false)
	mustProof(t, a[:42]+"+", false)
	mustS256(t, "", "47DEQpj8HBSa-_TImW-5JCeuQeRkm5NMpJWZG3hSuFU")
	mustS256(t, "abc", "ungWv48Bz-pBQUDeXa4iI7ADYaOWF3qctBD_YfIAFa0")
	mustMatch(t, a[:43], pkce.S256(a[:43]), true)
	mustMatch(t, "abc", pkce.S256("abc"), false)
	mustSame(t, "", "", true)
	mustSame(t, "abc", "abd", false)
	mustSame(t, "abc", "ab", false)
}

func TestExamplesOfPasswords(t *testing.T) {
	want := api.Secret{Salt: "salt", Digest: raw(t, "120fb6cffcf8b32c43e7225256c4f837a86548c92ccc35480805987cb70be17b")}
	got, err := pkce.Seal("password", "salt", 1)
	if got != want || err != nil {
		t.Errorf("P10.5: Seal(password, salt, 1) = %x, %v, want %x", got, err, want)
	}
	mustNotSeal(t, "", "", 1)
	mustNotSeal(t, "x", "salt", 0)
	mustNotSeal(t, "x", "salt", 1001)
	mustPassword(t, "password", want, 1, true)
	mustPassword(t, "password", want, 2, false)
}

func TestExamplesOfSources(t *testing.T) {
	s := pkce.NewSource()
	zeros := strings.Repeat("\x00", 32)
	mustPush(t, s, zeros[:31], api.ErrArg, 0)
	mustPush(t, s, zeros, nil, 1)
	mustFresh(t, s, nil, strings.Repeat("A", 43), nil, 0)
	mustFresh(t, s, nil, "", api.ErrDry, 0)
	mustPush(t, s, zeros, nil, 1)
	mustFresh(t, s, func(string) bool { return true }, "", api.ErrTaken, 0)
}

// TestExampleOfTheStandard is RFC 7636, appendix B, which the document's whole run leans on.
func TestExampleOfTheStandard(t *testing.T) {
	const verifier, challenge = "dBjftJeZ4CVP-mB92K27uhbUJU1p1r_wW1gFWFOEjXk", "E9Melhoa2OwvFrEMTJguCHaoeK1t8URWbuGJSstw-cM"
	mustProof(t, verifier, true)
	mustProof(t, challenge, true)
	mustS256(t, verifier, challenge)
	mustMatch(t, verifier, challenge, true)
	mustMatch(t, challenge, verifier, false)
	mustMatch(t, verifier, verifier, false)
}
