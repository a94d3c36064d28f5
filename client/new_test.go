package client_test

import (
	"math/rand"
	"strings"
	"testing"

	"usher/api"
	"usher/client"
)

// isMade holds New against the model; it answers whether there is a client.
func isMade(t *testing.T, id, secret, redirect string, scopes ...string) bool {
	t.Helper()
	c, err := client.New(id, secret, redirect, scopes)
	m := newModel(id, secret, redirect, scopes)
	if (c != nil) != (m != nil) || (err == nil) != (m != nil) || err != nil && err != api.ErrArg {
		t.Fatalf("P24.1: New(%+q, %+q, %+q, %+q) = %v, %v", id, secret, redirect, scopes, c, err)
	}
	return c != nil
}

func TestNames(t *testing.T) {
	for _, id := range []string{"a", "!", "~", "a:b", "a%20b", "a&b=c", strings.Repeat("x", maxID)} {
		if !isMade(t, id, "", home, "read") || !isMade(t, id, "pw", home, "read") {
			t.Errorf("P24.1: the name %q is refused", id)
		}
	}
	for _, id := range []string{"", " ", "a b", "a\n", "\x7f", "é", strings.Repeat("x", maxID+1)} {
		if isMade(t, id, "", home, "read") || isMade(t, id, "pw", home, "read") {
			t.Errorf("P24.1: the name %+q is taken", id)
		}
	}
	changed("app", func(id string) { isMade(t, id, "", home, "read") })
}

func TestRedirectAddresses(t *testing.T) {
	long := "https://a/" + strings.Repeat("x", 502)
	for _, redirect := range []string{home, "https://a", "https://a?", "https://a?code=k&state=" + z, "https://[::1]:8443/?", "http://localhost:1/cb", "http://127.0.0.1", "com.example.app:/cb", "https://a:65535", long} {
		if !isMade(t, "app", "", redirect, "read") {
			t.Errorf("P24.1: the address %q is refused", redirect)
		}
	}
	for _, redirect := range []string{"", "/cb", "a.example/cb", "http://a.example/cb", "HTTPS://a", "https://", "https://a#", "https://a/ b", "https://a/\xff", "https://a:0", "https://a:65536", "example:/cb", "com.example.app://cb", long + "x"} {
		if isMade(t, "app", "", redirect, "read") {
			t.Errorf("P24.1: the address %+q is taken", redirect)
		}
	}
	for _, redirect := range []string{"https://a.b:80/c?d", "http://[::1]/%2f", "a.b:/c"} {
		changed(redirect, func(redirect string) { isMade(t, "app", "", redirect, "read") })
	}
}

// TestWishes: blanks part scopes wherever they stand, and what stands twice counts once.
func TestWishes(t *testing.T) {
	sixteen := strings.Split("abcdefghijklmnop", "")
	for want, lists := range map[string][][]string{
		"a":                        {{"a"}, {"a", "a"}, {"a a"}, {"a a", "a"}},
		"a b":                      {{"a", "b"}, {"b", "a"}, {"a b"}, {"b a"}, {"b", "a", "b"}, {"b a b", "a"}},
		"A a aa b":                 {{"b", "aa", "a", "A"}, {"aa A", "b a"}},
		"! # [ ] ~":                {{"~", "]", "[", "#", "!"}},
		"read:x y&z=1":             {{"y&z=1", "read:x"}},
		strings.Join(sixteen, " "): {sixteen, append(strings.Split("ponmlkjihgfedcba", ""), "a", "b c")},
		strings.Repeat("s", 32):    {{strings.Repeat("s", 32)}},
	} {
		for _, list := range lists {
			b := newBenchOf(t, "app", "", home, list...)
			target, err := b.begin(draw(1), draw(2))
			if scope := "&" + formOf("scope", want) + "&"; !strings.Contains(target, scope) || err != nil {
				t.Errorf("P24.1: of the scopes %q %q is asked for, want %q", list, target, scope)
			}
		}
	}
	for _, list := range [][]string{nil, {}, {""}, {"a", ""}, {"", "a"}, {" a"}, {"a "}, {"a", " "}, {"a  b"}, {"a\tb"}, {"\""}, {"a", "\\"}, {"é"}, {strings.Repeat("s", 33)}, append(sixteen, "q"), {strings.Join(sixteen, " "), "q"}} {
		if isMade(t, "app", "", home, list...) {
			t.Errorf("P24.1: the scopes %+q are taken", list)
		}
	}
	changed("a b", func(s string) {
		isMade(t, "app", "", home, s)
		isMade(t, "app", "", home, "c", s)
		isMade(t, "app", "", home, s, "c")
	})
}

// TestSecrets: any text may be one; only the empty one makes a client public.
func TestSecrets(t *testing.T) {
	for _, secret := range []string{"", " ", "p:w", "pässwort", "\x00", everyByte(), strings.Repeat("p", 1000)} {
		b := newBenchOf(t, "a:b", secret, home, "read")
		b.toCode(1, "k")
		q, _ := b.redeem()
		if public := strings.HasSuffix(q.Body, "&client_id=a%3Ab"); public != (secret == "") || len(q.Fields) == 3 != public {
			t.Errorf("Words: with the secret %+q this is sent: %s", secret, told(q))
		}
	}
}

func TestAClientThatIsNew(t *testing.T) {
	for _, secret := range []string{"", "pw"} {
		b := newBenchOf(t, "app", secret, home, "read")
		b.mustBeEmpty()
		if got := b.client.Failed(); got != "" {
			t.Errorf("P24.7: Failed() = %q", got)
		}
	}
}

// TestClientsBesideOneAnother plays two benches by turns: what one does the other knows nothing of.
func TestClientsBesideOneAnother(t *testing.T) {
	random := rand.New(rand.NewSource(6))
	for range 200 {
		one, other := newBench(t), newBenchOf(t, "app", "pw", home, "write", "read")
		if random.Intn(2) == 0 {
			other = newBench(t)
		}
		number := 0
		for range 60 {
			aStep(random, oneOf(random, one, other), &number)
			one.look()
			other.look()
		}
	}
	one, other := newBench(t), newBench(t)
	_, err := one.begin(draw(1), draw(2))
	one.must(err, nil)
	other.must(other.back(other.own("code", "k", letters(draw(1)))), api.ErrLost)
	_, err = other.begin(draw(3), draw(4))
	other.must(err, nil)
	other.must(other.back(other.own("code", "k", letters(draw(1)))), api.ErrDenied)
	one.must(one.back(one.own("code", "k", letters(draw(1)))), nil)
	other.mustLack(other.redeem)
}
