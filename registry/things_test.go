package registry_test

import (
	"strings"
	"testing"

	"usher/api"
)

// app begins a client; its lines end at number 9.
const app = head + "client app public\n"

// appEnd makes the client of app whole.
const appEnd = "redirect https://z.example/\nscopes z\n"

func one(client api.Client) api.Config {
	c := base()
	c.Clients = []api.Client{client}
	return c
}

func tail(words string) string {
	return "redirect https://a.example/000\nscopes " + words + "\n"
}

func TestClientLines(t *testing.T) {
	for _, id := range []string{"a", "#", "public", "secret", "client", "!\"\\~", strings.Repeat("i", 64)} {
		public := publicClient(id, 1, 1)
		mustRead(t, head+"client "+id+" public\n"+tail("s000"), one(public))
		for _, salt := range []int{1, 2, 63, 64} {
			confidential := public
			confidential.Public, confidential.Secret = false, secretOf(salt)
			mustRead(t, head+"client "+id+" secret "+digitsOf(secretOf(salt))+"\n"+tail("s000"), one(confidential))
		}
	}
	for _, line := range []string{"client", "client a", "client a private", "client a Public", "client public", "client secret", "client a b public", "client a public x", "client a public 00 " + zeros, "client a secret", "client a secret 00", "client a secret " + zeros, "client a secret 00 " + zeros + " x", "client a secret 00 " + zeros + " 00 " + zeros, "client a 00 " + zeros, "client a public public"} {
		mustNotRead(t, head+line, 9, api.ErrText)
		mustNotRead(t, app+line+"\n", 10, api.ErrText)
	}
	long := strings.Repeat("i", 65)
	mustNotRead(t, head+"client "+long+" public", 9, api.ErrArg)
	mustNotRead(t, head+"client "+long+" secret 00 "+zeros, 9, api.ErrArg)
}

// TestSecretsInLines stand in the lines of clients and of users.
func TestSecretsInLines(t *testing.T) {
	for _, begin := range []string{"client new secret ", "user new "} {
		for _, salt := range []string{"0", "000", "0A", "aA", "0g", "g0", "0x", "-1", "00:", strings.Repeat("0", 129), "é"} {
			mustNotRead(t, head+begin+salt+" "+zeros, 9, api.ErrText)
			mustNotRead(t, head+begin+salt+" 00", 9, api.ErrText)
			mustNotRead(t, head+begin+"00 "+salt, 9, api.ErrText)
		}
		for _, size := range []int{65, 66, 128, 256 + 1} {
			mustNotRead(t, head+begin+strings.Repeat("5a", size)+" "+zeros, 9, api.ErrArg)
		}
		for _, size := range []int{1, 16, 31, 33, 64, 256 + 32} {
			mustNotRead(t, head+begin+"5a "+strings.Repeat("5a", size), 9, api.ErrArg)
		}
	}
	for n := range 256 {
		c := base()
		c.Users = []api.User{{Name: "u", Secret: api.Secret{Salt: oneByte(n), Digest: strings.Repeat(oneByte(255-n), 32)}}}
		mustRead(t, head+"user u "+digitsOf(c.Users[0].Secret), c)
	}
}

func TestRedirectLines(t *testing.T) {
	for count := 1; count <= 8; count++ {
		lines := "redirect " + strings.Join(addresses(count), "\nredirect ") + "\n"
		mustRead(t, app+lines+"scopes s000", one(publicClient("app", count, 1)))
		mustRead(t, app+"scopes s000\n"+lines, one(publicClient("app", count, 1)))
		mustNotRead(t, app+lines, 10+count, api.ErrShort)
		for _, address := range addresses(count) {
			mustNotRead(t, app+lines+"redirect "+address, 10+count, api.ErrTwice)
		}
		mustNotRead(t, app+lines+"redirect http://a.example/", 10+count, api.ErrArg)
	}
	mustNotRead(t, app+"scopes a", 11, api.ErrShort)
	nine := "redirect " + strings.Join(addresses(9), "\nredirect ")
	mustNotRead(t, app+nine, 18, api.ErrMany)
	for _, line := range []string{"redirect", "redirect https://a.example/ https://b.example/", "redirect https://a.example/ x", "redirect a b"} {
		mustNotRead(t, app+line, 10, api.ErrText)
		mustNotRead(t, head+line, 9, api.ErrText)
	}
	for _, address := range []string{"a", "http://a.example/", "https://a.example/#f", "#", "https://a.example/\"", "https://a.example/" + strings.Repeat("a", 495)} {
		mustNotRead(t, app+"redirect "+address, 10, api.ErrArg)
		mustNotRead(t, head+"redirect "+address, 9, api.ErrText)
	}
	mustNotRead(t, head+"redirect https://a.example/\nclient app public\n", 9, api.ErrText)
	mustNotRead(t, head+"user ann 00 "+zeros+"\nredirect https://a.example/", 10, api.ErrText)
}

// TestRedirectsKeepTheirOrder, and each client has its own.
func TestRedirectsKeepTheirOrder(t *testing.T) {
	c := base()
	c.Clients = []api.Client{
		{ID: "b", Public: true, Redirects: []string{"https://z", "https://a", "https://m"}, Scopes: []string{"s"}},
		{ID: "a", Public: true, Redirects: []string{"https://m", "https://z"}, Scopes: []string{"s"}},
	}
	mustText(t, c, head+"client b public\nredirect https://z\nredirect https://a\nredirect https://m\nscopes s\nclient a public\nredirect https://m\nredirect https://z\nscopes s\n")
	mustRead(t, head+"client b public\nredirect https://z\nscopes s\nredirect https://a\nredirect https://m\nclient a public\nredirect https://m\nredirect https://z\nscopes s\n", c)
}

func TestScopesLines(t *testing.T) {
	for count := 1; count <= 16; count++ {
		words := numbered("s", count)
		want := one(publicClient("app", 1, count))
		mustRead(t, app+tail(strings.Join(words, " ")), want)
		for from := range words {
			turned := append(append([]string(nil), words[from:]...), words[:from]...)
			mustRead(t, app+tail(strings.Join(turned, "  ")), want)
			mustNotRead(t, app+"scopes "+strings.Join(turned, " ")+" "+words[from], 10, api.ErrTwice)
			mustNotRead(t, app+"scopes "+words[from]+" "+strings.Join(words, " "), 10, api.ErrTwice)
		}
		mustNotRead(t, app+tail(strings.Join(words, " "))+"scopes other", 12, api.ErrTwice)
	}
	for _, count := range []int{17, 18, 100, 20000} {
		mustNotRead(t, app+"scopes "+strings.Join(numbered("s", count), " "), 10, api.ErrMany)
	}
	mustNotRead(t, app+"scopes", 10, api.ErrText)
	mustNotRead(t, app+"scopes  ", 10, api.ErrText)
	mustNotRead(t, head+"scopes", 9, api.ErrText)
	mustNotRead(t, head+"scopes a", 9, api.ErrText)
	mustNotRead(t, head+"user ann 00 "+zeros+"\nscopes a", 10, api.ErrText)
	for _, word := range []string{"\"", "a\"", "\\", "a\\b", strings.Repeat("s", 33), strings.Repeat("s", 1000)} {
		for _, line := range []string{"scopes " + word, "scopes a " + word, "scopes " + word + " a", "scopes a " + word + " b"} {
			mustNotRead(t, app+line, 10, api.ErrArg)
			mustNotRead(t, head+line, 9, api.ErrText)
		}
	}
	c := one(publicClient("app", 1, 1))
	c.Clients[0].Scopes = []string{"!", "#", "B", "a", "aa", "ab", "b", "~"}
	mustRead(t, app+tail("b ab aa a B ~ # !"), c)
}

func TestUserLines(t *testing.T) {
	for _, name := range []string{"a", "#", "user", "!\"\\~", strings.Repeat("n", 64)} {
		for _, salt := range []int{1, 2, 63, 64} {
			c := base()
			c.Users = []api.User{{Name: name, Secret: secretOf(salt)}}
			mustRead(t, head+"user "+name+" "+digitsOf(secretOf(salt)), c)
			mustRead(t, "user "+name+" "+digitsOf(secretOf(salt))+"\n"+head, c)
		}
	}
	for _, line := range []string{"user", "user a", "user a 00", "user a " + zeros, "user a 00 " + zeros + " x", "user 00 " + zeros, "user a secret 00 " + zeros, "user a public"} {
		mustNotRead(t, head+line, 9, api.ErrText)
	}
	mustNotRead(t, head+"user "+strings.Repeat("n", 65)+" 00 "+zeros, 9, api.ErrArg)
}

// TestMostClientsAndUsers: 64 are read, and the next line is refused, if it is not for another cause.
func TestMostClientsAndUsers(t *testing.T) {
	c := base()
	c.Clients, c.Users = clients(64), users(64)
	text := textOf(c)
	mustRead(t, text, c)
	mustText(t, c, text)
	line := strings.Count(text, "\n") + 1
	for _, x := range []struct {
		line string
		want error
	}{
		{"client new public", api.ErrMany}, {"client new secret 00 " + zeros, api.ErrMany}, {"user new 00 " + zeros, api.ErrMany},
		{"client c000 public", api.ErrTwice}, {"client c063 secret 00 " + zeros, api.ErrTwice}, {"user u000 00 " + zeros, api.ErrTwice}, {"user u063 00 " + zeros, api.ErrTwice},
		{"client new secret 00 00", api.ErrArg}, {"user new 00 00", api.ErrArg}, {"client " + strings.Repeat("n", 65) + " public", api.ErrArg},
		{"client new", api.ErrText}, {"client new secret 0 " + zeros, api.ErrText}, {"user new 0 " + zeros, api.ErrText},
	} {
		mustNotRead(t, text+x.line, line, x.want)
		mustNotRead(t, text+x.line+"\n\n", line, x.want)
	}
	c.Clients = c.Clients[:63]
	mustRead(t, textOf(c)+"client c063 public\nredirect https://a.example/000\nscopes s000\n", func() api.Config { c.Clients = clients(64); return c }())
}

// TestTwoFaultsInOneLine: of two refusals of a line the answer is the first of ErrText, ErrArg, ErrTwice, ErrMany.
func TestTwoFaultsInOneLine(t *testing.T) {
	long := strings.Repeat("n", 65)
	eight := app + "redirect " + strings.Join(addresses(8), "\nredirect ") + "\n"
	seventeen := strings.Join(numbered("s", 17), " ")
	said := app + "scopes a\n"
	ann := head + "user ann 00 " + zeros + "\n"
	for _, x := range []struct {
		ahead, line string
		want        error
	}{
		{head, "rounds 0 0", api.ErrText}, {head, "rounds 00", api.ErrText}, {head, "rounds 10 10", api.ErrText}, {head, "rounds 1001", api.ErrArg}, {head, "rounds 10", api.ErrTwice},
		{app, "client " + long + " private", api.ErrText}, {app, "client " + long + " secret 0 " + zeros, api.ErrText}, {app, "client app secret 00 0", api.ErrText}, {app, "client app", api.ErrText},
		{app, "client app secret 00 00", api.ErrArg}, {app, "client app public", api.ErrTwice}, {app, "client app secret 00 " + zeros, api.ErrTwice},
		{eight, "redirect", api.ErrText}, {eight, "redirect a b", api.ErrText}, {eight, "redirect a", api.ErrArg}, {eight, "redirect https://a.example/003", api.ErrTwice}, {eight, "redirect https://a.example/008", api.ErrMany},
		{said, "scopes", api.ErrText}, {said, "scopes \" \"", api.ErrArg}, {said, "scopes \"", api.ErrArg}, {said, "scopes " + seventeen, api.ErrTwice}, {said, "scopes " + seventeen + " \"", api.ErrArg}, {said, "scopes b b", api.ErrTwice},
		{app, "scopes \" \"", api.ErrArg}, {app, "scopes " + seventeen + " s003", api.ErrTwice}, {app, "scopes " + seventeen + " \"", api.ErrArg}, {app, "scopes a a \"", api.ErrArg},
		{ann, "user ann 0 " + zeros, api.ErrText}, {ann, "user ann 00 0", api.ErrText}, {ann, "user ann", api.ErrText}, {ann, "user " + long + " 0 " + zeros, api.ErrText}, {ann, "user ann 00 00", api.ErrArg}, {ann, "user ann 01 " + zeros, api.ErrTwice},
		{app, "redirect \x00", api.ErrText}, {app, "scopes \" \x7f", api.ErrText}, {app, "client app public\x00", api.ErrText}, {ann, "user ann 00 00 \x7f", api.ErrText}, {head, "rounds 0 \x1f", api.ErrText},
	} {
		line := strings.Count(x.ahead, "\n") + 1
		mustNotRead(t, x.ahead+x.line, line, x.want)
		mustNotRead(t, x.ahead+"# more\n  "+x.line+"\nx\n", line+1, x.want)
	}
}

// TestWhatIsMissing comes behind the errors of all lines.
func TestWhatIsMissing(t *testing.T) {
	mustNotRead(t, app, 10, api.ErrShort)
	mustNotRead(t, app+"redirect https://a.example/", 11, api.ErrShort)
	mustNotRead(t, app+"scopes a\n", 11, api.ErrShort)
	mustNotRead(t, app+"\n# \nscopes a\n\n", 14, api.ErrShort)
	mustNotRead(t, app+appEnd+"client b public", 13, api.ErrShort)
	mustNotRead(t, app+appEnd+"client b public\n"+"scopes a", 14, api.ErrShort)
	mustNotRead(t, app+"client b public\n"+appEnd, 13, api.ErrShort)
	mustNotRead(t, app+"scopes a\nclient b public\n"+appEnd, 14, api.ErrShort)
	mustNotRead(t, app+"redirect https://a\nclient b public\n"+appEnd, 14, api.ErrShort)
	mustNotRead(t, app+"rounds 0", 10, api.ErrArg)
	mustNotRead(t, "client app public\n"+appEnd, 4, api.ErrShort)
	mustNotRead(t, "client app public\nx", 2, api.ErrText)
	mustNotRead(t, "user ann 00 "+zeros, 2, api.ErrShort)
}
