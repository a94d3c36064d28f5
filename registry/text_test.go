package registry_test

import (
	"strings"
	"testing"

	"usher/api"
	"usher/registry"
)

// TestTextOfClients: lists without elements are nil or empty, secrets are raw bytes.
func TestTextOfClients(t *testing.T) {
	c := base()
	c.Clients, c.Users = []api.Client{}, []api.User{}
	mustText(t, c, head)
	secret := api.Secret{Salt: "\x00\x0a \xff", Digest: strings.Repeat("\x0a#", 16)}
	c.Clients = []api.Client{{ID: "#b", Secret: secret, Redirects: []string{"https://b", "https://a"}, Scopes: []string{"B", "a"}}}
	c.Users = []api.User{{Name: "z", Secret: secret}, {Name: "a", Secret: secretOf(1)}}
	digits := "000a20ff " + strings.Repeat("0a23", 16)
	mustText(t, c, head+"client #b secret "+digits+"\nredirect https://b\nredirect https://a\nscopes B a\nuser z "+digits+"\nuser a "+digitsOf(secretOf(1))+"\n")
}

func TestTextOfTheBrake(t *testing.T) {
	for _, fails := range []int{0, 1, 1000} {
		for _, lock := range []int{0, 1, 1 << 30} {
			c := base()
			c.Fails, c.LockTime = fails, lock
			mustTextBack(t, c)
		}
	}
	c := base()
	c.LockTime = 1
	mustText(t, c, head+"lock 1\n")
	c.Fails = 1
	mustText(t, c, head+"fails 1\nlock 1\n")
	c.LockTime = 0
	mustText(t, c, head+"fails 1\n")
	c.BodyMax = 0
	mustText(t, c, strings.Replace(head, "body 4096", "body 0", 1)+"fails 1\n")
}

// configOfSize has 64 clients with addresses so long that its text has so many bytes.
func configOfSize(t *testing.T, size int) api.Config {
	t.Helper()
	c := base()
	c.Clients = clients(64)
	for i := range c.Clients {
		c.Clients[i].Redirects = addresses(8)
	}
	more := size - len(textOf(c))
	for i := range c.Clients {
		for j, address := range c.Clients[i].Redirects {
			longer := min(more, 512-len(address))
			c.Clients[i].Redirects[j] += strings.Repeat("x", longer)
			more -= longer
		}
	}
	if more != 0 || len(textOf(c)) != size {
		t.Fatalf("no configuration of %d bytes", size)
	}
	return c
}

func TestSizeOfTextAnswered(t *testing.T) {
	for _, size := range []int{262000, 262143, 262144} {
		c := configOfSize(t, size)
		mustText(t, c, textOf(c))
		mustRead(t, textOf(c), c)
	}
	for _, size := range []int{262145, 262146, 264000} {
		c := configOfSize(t, size)
		mustCheck(t, c, nil)
		if got, err := registry.Text(c); got != "" || err != api.ErrMany {
			t.Errorf("P11.3: a text of %d bytes: %s, %v", size, short(got), err)
		}
		mustNotRead(t, textOf(c), 0, api.ErrMany)
	}
	c := configOfSize(t, 264000)
	c.Rounds = 0
	mustNotText(t, c, api.ErrArg)
	c = configOfSize(t, 264000)
	c.Clients[3].ID = c.Clients[9].ID
	mustNotText(t, c, api.ErrTwice)
}

// TestLineFeedOfTheLastLine may be what makes a text too long: without it, it is read.
func TestLineFeedOfTheLastLine(t *testing.T) {
	c := configOfSize(t, 262145)
	text := textOf(c)
	got, line, err := registry.Read(text[:len(text)-1])
	if !same(got, c) || line != 0 || err != nil {
		t.Errorf("P11.2: a text of 262144 bytes: %d, %v", line, err)
	}
	if again, err := registry.Text(got); again != "" || err != api.ErrMany {
		t.Errorf("P11.3: what was read in 262144 bytes is written as %s, %v", short(again), err)
	}
}
