package pkce_test

import (
	"crypto/pbkdf2"
	"crypto/sha256"
	"encoding/base64"
	"encoding/hex"
	"math/rand"
	"regexp"
	"strings"
	"testing"

	"usher/api"
	"usher/pkce"
)

// plain is the unreserved bytes, each once.
const plain = "ABCDEFGHIJKLMNOPQRSTUVWXYZabcdefghijklmnopqrstuvwxyz0123456789-._~"

// wholeProof is the grammar of RFC 7636, over texts that wide has made.
var wholeProof = regexp.MustCompile(`\A[A-Za-z0-9\-._~]{43,128}\z`)

// wide makes a rune of each byte, so that an expression speaks of bytes.
func wide(s string) string {
	runes := make([]rune, len(s))
	for i := range runes {
		runes[i] = rune(s[i])
	}
	return string(runes)
}

func oneByte(n int) string {
	return string([]byte{byte(n)})
}

// everyByte is the 256 bytes, rising.
func everyByte() string {
	b := make([]byte, 256)
	for i := range b {
		b[i] = byte(i)
	}
	return string(b)
}

// noise is size bytes out of those of from, the same ones for the same source.
func noise(random *rand.Rand, from string, size int) string {
	b := make([]byte, size)
	for i := range b {
		b[i] = from[random.Intn(len(from))]
	}
	return string(b)
}

// flipped is s with some bits of one byte turned over.
func flipped(s string, at int, bits byte) string {
	b := []byte(s)
	b[at] ^= bits
	return string(b)
}

// drawOf is a draw of 32 times the same byte.
func drawOf(n int) string {
	return strings.Repeat(oneByte(n), 32)
}

// idOf is the identifier of a draw, by the library's base64url.
func idOf(draw string) string {
	return base64.RawURLEncoding.EncodeToString([]byte(draw))
}

func standardS256(verifier string) string {
	digest := sha256.Sum256([]byte(verifier))
	return base64.RawURLEncoding.EncodeToString(digest[:])
}

func standardDigest(t *testing.T, pass, salt string, rounds int) string {
	t.Helper()
	key, err := pbkdf2.Key(sha256.New, pass, []byte(salt), rounds, 32)
	if err != nil {
		t.Fatal(err)
	}
	return string(key)
}

func raw(t *testing.T, digits string) string {
	t.Helper()
	b, err := hex.DecodeString(digits)
	if err != nil {
		t.Fatal(err)
	}
	return string(b)
}

func mustProof(t *testing.T, s string, want bool) {
	t.Helper()
	if v, c := pkce.Verifier(s), pkce.Challenge(s); v != want || c != want {
		t.Errorf("P10.1: of %.200q (%d bytes) Verifier is %v, Challenge is %v, want %v", s, len(s), v, c, want)
	}
	if got := wholeProof.MatchString(wide(s)); got != want {
		t.Errorf("P10.1: of %.200q (%d bytes) the expression says %v, want %v", s, len(s), got, want)
	}
}

func mustS256(t *testing.T, verifier, want string) {
	t.Helper()
	if got := pkce.S256(verifier); got != want || len(got) != 43 || !pkce.Challenge(got) {
		t.Errorf("P10.2: S256(%.200q) = %q, want %q, which is a challenge", verifier, got, want)
	}
}

// mustSame asks both ways round.
func mustSame(t *testing.T, a, b string, want bool) {
	t.Helper()
	if pkce.Same(a, b) != want || pkce.Same(b, a) != want {
		t.Errorf("P10.3: Same(%.200q, %.200q) = %v, the other way round %v, want %v", a, b, pkce.Same(a, b), pkce.Same(b, a), want)
	}
}

func mustMatch(t *testing.T, verifier, challenge string, want bool) {
	t.Helper()
	if got := pkce.Match(verifier, challenge); got != want {
		t.Errorf("P10.4: Match(%.200q, %.200q) = %v, want %v", verifier, challenge, got, want)
	}
}

// mustSeal fails unless the secret is that of the standard, and its password is the one that was sealed.
func mustSeal(t *testing.T, pass, salt string, rounds int) api.Secret {
	t.Helper()
	want := api.Secret{Salt: salt, Digest: standardDigest(t, pass, salt, rounds)}
	got, err := pkce.Seal(pass, salt, rounds)
	if got != want || err != nil {
		t.Errorf("P10.5: Seal(%.100q, %q, %d) = %x, %v, want %x", pass, salt, rounds, got, err, want)
	}
	mustPassword(t, pass, got, rounds, true)
	return got
}

func mustNotSeal(t *testing.T, pass, salt string, rounds int) {
	t.Helper()
	if got, err := pkce.Seal(pass, salt, rounds); got != (api.Secret{}) || err != api.ErrArg {
		t.Errorf("P10.5: Seal(%.100q, a salt of %d bytes, %d) = %x, %v, want nothing and ErrArg", pass, len(salt), rounds, got, err)
	}
}

func mustPassword(t *testing.T, pass string, k api.Secret, rounds int, want bool) {
	t.Helper()
	if got := pkce.Password(pass, k, rounds); got != want {
		t.Errorf("P10.6: Password(%.100q, %.100x, %d) = %v, want %v", pass, k, rounds, got, want)
	}
}

// mustPush fails unless the answer is this and so many draws wait behind it.
func mustPush(t *testing.T, s *pkce.Source, draw string, want error, left int) {
	t.Helper()
	if err := s.Push(draw); err != want || s.Left() != left {
		t.Errorf("P10.7: Push of %d bytes: %v, and %d wait, want %v and %d", len(draw), err, s.Left(), want, left)
	}
}

// mustFresh fails unless the answer is this and so many draws wait behind it.
func mustFresh(t *testing.T, s *pkce.Source, known func(string) bool, want string, refusal error, left int) {
	t.Helper()
	if id, err := s.Fresh(known); id != want || err != refusal || s.Left() != left {
		t.Errorf("P10.8: Fresh = %q, %v, and %d wait, want %q, %v and %d", id, err, s.Left(), want, refusal, left)
	}
}
