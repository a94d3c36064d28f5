package registry_test

import (
	"strings"
	"testing"

	"usher/api"
)

// TestExamples goes down the chapter's table.
func TestExamples(t *testing.T) {
	mustNotRead(t, "", 1, api.ErrShort)
	mustRead(t, head, base())
	mustText(t, base(), head)
	braked := base()
	braked.Fails = 3
	mustRead(t, head+"lock 0\nfails 3\n", braked)
	mustText(t, braked, head+"fails 3\n")
	mustNotRead(t, "fails 1001", 1, api.ErrArg)
	mustNotRead(t, "lock 1073741825", 1, api.ErrArg)
	mustNotRead(t, "fails 0\nfails 0", 2, api.ErrTwice)
	mustNotRead(t, head+"client app public", 10, api.ErrShort)
	mustNotRead(t, "# hello\n\n  rounds   10 \nrounds 0\n", 4, api.ErrArg)
	mustNotRead(t, "rounds 10\nrounds 11\n", 2, api.ErrTwice)
	for _, text := range []string{"rounds 010", "rounds", "Rounds 1", "rounds +1", "rounds 12345678901"} {
		mustNotRead(t, text, 1, api.ErrText)
	}
	mustNotRead(t, "rounds 1234567890", 1, api.ErrArg)
	mustNotRead(t, "redirect https://a.example/", 1, api.ErrText)
	mustCheck(t, api.Config{}, api.ErrArg)
	mustNotText(t, api.Config{}, api.ErrArg)
}

func TestExamplesOfClientsAndUsers(t *testing.T) {
	want := base()
	want.Clients = []api.Client{{ID: "app", Public: true, Redirects: []string{"https://a.example/cb"}, Scopes: []string{"read", "write"}}}
	want.Users = []api.User{{Name: "ann", Secret: api.Secret{Salt: "\x00", Digest: strings.Repeat("\x00", 32)}}}
	mustRead(t, head+"client app public\nredirect https://a.example/cb\nscopes write read\nuser ann 00 "+zeros+"\n", want)
	mustText(t, want, head+"client app public\nredirect https://a.example/cb\nscopes read write\nuser ann 00 "+zeros+"\n")
	mustNotRead(t, head+"user ann 00 "+zeros+"\nuser ann 01 "+zeros, 10, api.ErrTwice)
	mustNotRead(t, head+"user ann 0 "+zeros, 9, api.ErrText)
	mustNotRead(t, head+"user ann 0A "+zeros, 9, api.ErrText)
	mustNotRead(t, head+"user ann 00 00", 9, api.ErrArg)
}

// TestExampleOfTheDocument is the configuration of the document's whole run.
func TestExampleOfTheDocument(t *testing.T) {
	const secret = "73616c74 120fb6cffcf8b32c43e7225256c4f837a86548c92ccc35480805987cb70be17b"
	const text = "code-life 60\ntoken-life 3600\nsession-life 86400\nrefresh-life 100000\ndisk 100000\nhead 8192\nbody 4096\nrounds 1\n" +
		"client app public\nredirect https://a.example/cb\nscopes read write\n" +
		"client web secret " + secret + "\nredirect https://w.example/cb\nscopes read\nuser ann " + secret + "\n"
	sealed := api.Secret{Salt: "salt", Digest: "\x12\x0f\xb6\xcf\xfc\xf8\xb3\x2c\x43\xe7\x22\x52\x56\xc4\xf8\x37\xa8\x65\x48\xc9\x2c\xcc\x35\x48\x08\x05\x98\x7c\xb7\x0b\xe1\x7b"}
	want := api.Config{
		CodeLife: 60, TokenLife: 3600, SessionLife: 86400, RefreshLife: 100000, DiskBytes: 100000, HeadMax: 8192, BodyMax: 4096, Rounds: 1,
		Clients: []api.Client{
			{ID: "app", Public: true, Redirects: []string{"https://a.example/cb"}, Scopes: []string{"read", "write"}},
			{ID: "web", Secret: sealed, Redirects: []string{"https://w.example/cb"}, Scopes: []string{"read"}},
		},
		Users: []api.User{{Name: "ann", Secret: sealed}},
	}
	mustRead(t, text, want)
	mustText(t, want, text)
}
