package registry_test

import (
	"strings"
	"testing"

	"usher/api"
)

func TestCheckTakesWhatIsRight(t *testing.T) {
	mustText(t, base(), head)
	mustText(t, full(), fullText())
}

// TestCountsInCheck goes over each of the four counts.
func TestCountsInCheck(t *testing.T) {
	for _, count := range []int{0, 1, 2, 63, 64, 65, 66, 1000} {
		var want error
		if count > 64 {
			want = api.ErrMany
		}
		c := full()
		c.Clients = clients(count)
		mustCheck(t, c, want)
		c = full()
		c.Users = users(count)
		mustCheck(t, c, want)
		c.Clients = clients(count)
		mustCheck(t, c, want)
	}
	for count := range 20 {
		c := full()
		c.Clients[1].Redirects = addresses(count)
		mustCheck(t, c, wantForCount(count, 8))
		c = full()
		c.Clients[1].Scopes = numbered("s", count)
		mustCheck(t, c, wantForCount(count, 16))
	}
}

// wantForCount is the refusal of a client's list of so many.
func wantForCount(count, most int) error {
	switch {
	case count > most:
		return api.ErrMany
	case count == 0:
		return api.ErrArg
	}
	return nil
}

func TestSecretsInCheck(t *testing.T) {
	for _, size := range []int{0, 1, 2, 63, 64, 65, 128, 256 + 1, 1 << 16} {
		var want error
		if size < 1 || size > 64 {
			want = api.ErrArg
		}
		mustCheckSecret(t, secretOf(size), want)
	}
	for _, size := range []int{0, 1, 16, 31, 32, 33, 64, 256 + 32} {
		var want error
		if size != 32 {
			want = api.ErrArg
		}
		mustCheckSecret(t, api.Secret{Salt: "s", Digest: strings.Repeat("\xff", size)}, want)
	}
	mustCheckSecret(t, api.Secret{}, api.ErrArg)
}

// mustCheckSecret gives the secret to a client and to a user. A public client has none.
func mustCheckSecret(t *testing.T, s api.Secret, want error) {
	t.Helper()
	c := full()
	c.Clients[1].Secret = s
	mustCheck(t, c, want)
	c = full()
	c.Users[1].Secret = s
	mustCheck(t, c, want)
	if s != (api.Secret{}) {
		mustNotTextAfter(t, api.ErrArg, func(c *api.Config) { c.Clients[0].Secret = s })
	}
}

func TestSecretOfAPublicClient(t *testing.T) {
	mustNotTextAfter(t, api.ErrArg, func(c *api.Config) { c.Clients[0].Secret.Salt = "s" })
	mustNotTextAfter(t, api.ErrArg, func(c *api.Config) { c.Clients[0].Secret.Digest = strings.Repeat("d", 32) })
	mustNotTextAfter(t, api.ErrArg, func(c *api.Config) { c.Clients[1].Public = true })
	mustNotTextAfter(t, api.ErrArg, func(c *api.Config) { c.Clients[0].Public = false })
	c := full()
	c.Clients[1].Public, c.Clients[1].Secret = true, api.Secret{}
	mustCheck(t, c, nil)
}

func TestNamesInCheck(t *testing.T) {
	for _, name := range []string{"", " ", "a b", " a", "a ", "a\n", "\x7f", "\x00", "é", strings.Repeat("n", 65), strings.Repeat("n", 1<<16)} {
		mustNotTextAfter(t, api.ErrArg, func(c *api.Config) { c.Clients[1].ID = name })
		mustNotTextAfter(t, api.ErrArg, func(c *api.Config) { c.Users[1].Name = name })
	}
	for _, name := range []string{"n", "#", "#n", "!", "~", "\"", "\\", "public", "secret", "client", "user", "0", strings.Repeat("n", 64)} {
		c := full()
		c.Clients[1].ID, c.Users[0].Name = name, name
		mustTextBack(t, c)
	}
}

func TestAddressesInCheck(t *testing.T) {
	for _, address := range []string{"", "a", "http://a.example/", "https://a.example/#f", "HTTPS://a.example/", " https://a.example/", "https://a.example/\n", "https://a.example/" + strings.Repeat("a", 495)} {
		for at := range 2 {
			mustNotTextAfter(t, api.ErrArg, func(c *api.Config) { c.Clients[0].Redirects[at] = address })
		}
	}
	for _, address := range []string{"https://a", "http://localhost/", "a.b:/", "https://a.example/cb?q=%20", "https://a.example/" + strings.Repeat("a", 494)} {
		c := full()
		c.Clients[0].Redirects[1] = address
		mustTextBack(t, c)
	}
}

func TestScopesInCheck(t *testing.T) {
	for _, scope := range []string{"", " ", "a b", "z z", "z ", " z", "z\"", "z\\", "z\x7f", "z\x00", "zé", "z\t", strings.Repeat("z", 33), strings.Repeat("z ", 1<<16)} {
		mustNotTextAfter(t, api.ErrArg, func(c *api.Config) { c.Clients[0].Scopes[1] = scope })
		mustNotTextAfter(t, api.ErrArg, func(c *api.Config) { c.Clients[1].Scopes = []string{scope} })
	}
	for _, scopes := range [][]string{{"b", "a"}, {"a", "a"}, {"a", "b", "b"}, {"a", "c", "b"}, {"b", "a", "c"}, {"ab", "a"}, {"a", "B"}, {"a", "!"}} {
		mustNotTextAfter(t, api.ErrArg, func(c *api.Config) { c.Clients[0].Scopes = scopes })
		mustNotTextAfter(t, api.ErrArg, func(c *api.Config) { c.Clients[1].Scopes = scopes })
	}
	for _, scopes := range [][]string{{"a"}, {"a", "ab"}, {"B", "a"}, {"!", "#", "["}, {"]", "~"}, {strings.Repeat("z", 31), strings.Repeat("z", 32)}, {"#x"}, {"public"}} {
		c := full()
		c.Clients[0].Scopes = scopes
		mustTextBack(t, c)
	}
}

// mustTextBack fails unless c has a text, and is read back out of it.
func mustTextBack(t *testing.T, c api.Config) {
	t.Helper()
	mustText(t, c, textOf(c))
}

func TestTwiceInCheck(t *testing.T) {
	mustNotTextAfter(t, api.ErrTwice, func(c *api.Config) { c.Clients[1].ID = "app" })
	mustNotTextAfter(t, api.ErrTwice, func(c *api.Config) { c.Users[1].Name = "ann" })
	mustNotTextAfter(t, api.ErrTwice, func(c *api.Config) { c.Clients[0].Redirects[1] = "https://a.example/cb" })
	c := full()
	c.Clients[1].Redirects = []string{"https://a.example/cb"}
	mustTextBack(t, c)
	c.Clients[1].ID = "ann"
	mustTextBack(t, c)
	for first := range 8 {
		for second := range first {
			mustNotTextAfter(t, api.ErrTwice, func(c *api.Config) {
				c.Clients[1].Redirects = addresses(8)
				c.Clients[1].Redirects[first] = c.Clients[1].Redirects[second]
			})
		}
	}
	for _, at := range []int{1, 2, 31, 62, 63} {
		c := full()
		c.Clients, c.Users = clients(64), users(64)
		mustCheck(t, c, nil)
		c.Clients[at].ID = c.Clients[at/2].ID
		mustNotText(t, c, api.ErrTwice)
		c.Clients = clients(64)
		c.Users[at].Name = c.Users[at/2].Name
		mustNotText(t, c, api.ErrTwice)
	}
}

// faults are ways of making a full configuration wrong, by the refusal.
func faults() map[error][]func(*api.Config) {
	return map[error][]func(*api.Config){
		api.ErrMany: {
			func(c *api.Config) { c.Clients = append(c.Clients, clients(63)...) },
			func(c *api.Config) { c.Users = append(c.Users, users(63)...) },
			func(c *api.Config) { c.Clients[0].Redirects = append(c.Clients[0].Redirects, addresses(7)...) },
			func(c *api.Config) { c.Clients[1].Scopes = append(c.Clients[1].Scopes, numbered("s", 15)...) },
		},
		api.ErrArg: {
			func(c *api.Config) { c.CodeLife = 0 },
			func(c *api.Config) { c.LockTime = -1 },
			func(c *api.Config) { c.Clients[0].Secret.Salt = "s" },
			func(c *api.Config) { c.Clients[1].Secret.Salt = "" },
			func(c *api.Config) { c.Clients[0].Redirects[0] = "a" },
			func(c *api.Config) { c.Clients[1].Scopes[0] = "\"" },
			func(c *api.Config) { c.Clients[0].Scopes[0] = "x" },
			func(c *api.Config) { c.Users[1].Secret.Digest = "" },
		},
		api.ErrTwice: {
			func(c *api.Config) { c.Clients[0].ID = c.Clients[1].ID },
			func(c *api.Config) { c.Users[0].Name = c.Users[1].Name },
			func(c *api.Config) { c.Clients[1].Redirects = []string{"https://b", "https://b"} },
		},
	}
}

// TestTwoFaultsInCheck: ErrMany comes ahead of ErrArg, and that ahead of ErrTwice, wherever the two faults stand.
func TestTwoFaultsInCheck(t *testing.T) {
	list := faults()
	for _, refusal := range []error{api.ErrMany, api.ErrArg, api.ErrTwice} {
		for _, fault := range list[refusal] {
			mustNotTextAfter(t, refusal, fault)
		}
	}
	for _, twice := range list[api.ErrTwice] {
		for _, arg := range list[api.ErrArg] {
			mustNotTextAfter(t, api.ErrArg, twice, arg)
			for _, many := range list[api.ErrMany] {
				mustNotTextAfter(t, api.ErrMany, twice, many)
				mustNotTextAfter(t, api.ErrMany, arg, many)
				mustNotTextAfter(t, api.ErrMany, twice, arg, many)
			}
		}
	}
}

// TestCheckOfNothing: among things that are all wrong the counts come first.
func TestCheckOfNothing(t *testing.T) {
	mustNotText(t, api.Config{}, api.ErrArg)
	mustNotText(t, api.Config{Users: make([]api.User, 65)}, api.ErrMany)
	mustNotText(t, api.Config{Users: make([]api.User, 64)}, api.ErrArg)
	mustNotText(t, api.Config{Clients: make([]api.Client, 65)}, api.ErrMany)
	mustNotText(t, api.Config{Clients: make([]api.Client, 64)}, api.ErrArg)
	mustNotText(t, api.Config{Clients: []api.Client{{}, {Redirects: make([]string, 9)}}}, api.ErrMany)
	mustNotText(t, api.Config{Clients: []api.Client{{}, {Redirects: make([]string, 8)}}}, api.ErrArg)
	mustNotText(t, api.Config{Clients: []api.Client{{}, {Scopes: make([]string, 17)}}}, api.ErrMany)
	mustNotText(t, api.Config{Clients: []api.Client{{}, {Scopes: make([]string, 16)}}}, api.ErrArg)
}
