package client_test

import (
	"strings"
	"testing"

	"usher/api"
)

// TestSizesOfDraws: just 32 bytes each, whatever they are.
func TestSizesOfDraws(t *testing.T) {
	sizes := []int{0, 1, 31, 32, 33, 43, 64, 1 << 16}
	for _, state := range sizes {
		for _, verifier := range sizes {
			b := newBench(t)
			_, err := b.begin(strings.Repeat("\x00", state), strings.Repeat("\xff", verifier))
			if (err == nil) != (state == 32 && verifier == 32) {
				t.Errorf("P24.2: Begin of %d and %d bytes answers %v", state, verifier, err)
			}
		}
	}
	for n := range 256 {
		newBench(t).begin(same(byte(n)), same(byte(255-n)))
	}
	newBench(t).begin(everyByte()[:32], everyByte()[224:])
}

func TestTargets(t *testing.T) {
	for _, secret := range []string{"", "pw"} {
		b := newBenchOf(t, "a&b", secret, "https://a/c?x=%2f&y", "write", "r:e+d", "a=b")
		want := "/authorize?client_id=a%26b&redirect_uri=https%3A%2F%2Fa%2Fc%3Fx%3D%252f%26y&response_type=code&scope=a%3Db+r%3Ae%2Bd+write&state=" + o + "&code_challenge=" + challengeOf(z) + "&code_challenge_method=S256"
		if got, err := b.begin(same(1), same(0)); got != want || err != nil {
			t.Errorf("P24.2: Begin = %q, %v, want %q", got, err, want)
		}
	}
	// RFC 7636, appendix B.
	b := newBench(t)
	raw := "\x74\x18\xdf\xb4\x97\x99\xe0\x25\x4f\xfa\x60\x7d\xd8\xad\xbb\xba\x16\xd4\x25\x4d\x69\xd6\xbf\xf0\x5b\x58\x05\x58\x53\x84\x8d\x79"
	target, _ := b.begin(same(0), raw)
	if !strings.Contains(target, "&code_challenge=E9Melhoa2OwvFrEMTJguCHaoeK1t8URWbuGJSstw-cM&") {
		t.Errorf("P24.2: Begin = %q", target)
	}
	b.must(b.back(b.own("code", "k", z)), nil)
	b.mustSend(b.redeem, "grant_type=authorization_code&code=k&redirect_uri=https%3A%2F%2Fa.example%2Fcb&code_verifier=dBjftJeZ4CVP-mB92K27uhbUJU1p1r_wW1gFWFOEjXk&client_id=app")
}

// TestTheLastBeginningCounts: ahead of, amid and behind another one.
func TestTheLastBeginningCounts(t *testing.T) {
	b := newBench(t)
	first, second := b.own("code", "one", letters(draw(1))), b.own("code", "two", letters(draw(3)))
	b.begin(draw(1), draw(2))
	b.begin(draw(3), draw(4))
	b.must(b.back(first), api.ErrDenied)
	b.must(b.back(second), nil)
	b.must(b.back(first), api.ErrLost)
	b.begin(draw(1), draw(2))
	b.mustLack(b.redeem)
	b.must(b.back(second), api.ErrDenied)
	b.must(b.back(first), nil)
	q, _ := b.redeem()
	if !strings.Contains(q.Body, "&code_verifier="+letters(draw(2))+"&") {
		t.Errorf("P24.4: with the first beginning's code this is sent: %s", told(q))
	}
	// The same state with another verifier: the last one's goes with the code.
	b.begin(draw(1), draw(5))
	b.begin(draw(1), draw(6))
	b.must(b.back(first), nil)
	if q, _ = b.redeem(); !strings.Contains(q.Body, "&code_verifier="+letters(draw(6))+"&") {
		t.Errorf("P24.4: with the last beginning's code this is sent: %s", told(q))
	}
}

// TestWhatABeginningChanges, and what one that is refused does not.
func TestWhatABeginningChanges(t *testing.T) {
	refused := func(b *bench) {
		for _, size := range []int{0, 31, 33} {
			_, err := b.begin(draw(8)[:min(size, 32)]+strings.Repeat("x", max(size-32, 0)), draw(9))
			b.must(err, api.ErrArg)
			_, err = b.begin(draw(8), strings.Repeat("x", size))
			b.must(err, api.ErrArg)
		}
	}
	begun := func(b *bench) {
		_, err := b.begin(draw(8), draw(9))
		b.must(err, nil)
	}
	for _, isRefused := range []bool{true, false} {
		step := begun
		if isRefused {
			step = refused
		}
		waiting := newBench(t) // a code
		waiting.toCode(1, "k")
		step(waiting)
		_, err := waiting.redeem()
		if (err == nil) != isRefused {
			t.Errorf("P24.2: refused %v: of a code that waits is answered %v", isRefused, err)
		}
		failing := newBench(t) // a failure
		failing.begin(draw(1), draw(2))
		failing.must(failing.back(failing.own("error", "e", letters(draw(1)))), nil)
		step(failing)
		if got := failing.client.Failed(); (got == "e") != isRefused {
			t.Errorf("P24.2: refused %v: Failed() = %q", isRefused, got)
		}
		amid := newBench(t) // another beginning
		amid.begin(draw(1), draw(2))
		step(amid)
		if err := amid.back(amid.own("code", "k", letters(draw(1)))); (err == nil) != isRefused {
			t.Errorf("P24.2: refused %v: the answer to the other beginning: %v", isRefused, err)
		}
		rich := newBench(t) // a token, a refresh token, and a request that is out
		rich.toToken(5, 1, giving("t", 10, "read", "r"))
		rich.mustSend(rich.renew, "grant_type=refresh_token&refresh_token=r&client_id=app")
		step(rich)
		rich.mustHave(14, "t", "read")
		rich.must(rich.take(6, giving("u", 10, "write", "")), nil)
		rich.mustHave(15, "u", "write")
		rich.mustSend(rich.drop, "token=r&client_id=app")
	}
}
