package registry

import (
	"strconv"
	"strings"

	"usher/api"
	"usher/radix"
)

// A writer is the lines of a text so far.
type writer struct {
	text strings.Builder
}

func (w *writer) line(words ...string) {
	w.text.WriteString(strings.Join(words, " "))
	w.text.WriteByte('\n')
}

func write(c api.Config) string {
	w := &writer{}
	w.numbers(c)
	for _, client := range c.Clients {
		w.client(client)
	}
	for _, user := range c.Users {
		w.line("user", user.Name, radix.Hex(user.Secret.Salt), radix.Hex(user.Secret.Digest))
	}
	return w.text.String()
}

// numbers leaves out those that need not be said and are 0: they are read as 0.
func (w *writer) numbers(c api.Config) {
	for i, place := range places(&c) {
		if i < neededNumbers || *place != 0 {
			w.line(numbers[i].word, strconv.Itoa(*place))
		}
	}
}

func (w *writer) client(c api.Client) {
	if c.Public {
		w.line("client", c.ID, "public")
	} else {
		w.line("client", c.ID, "secret", radix.Hex(c.Secret.Salt), radix.Hex(c.Secret.Digest))
	}
	for _, address := range c.Redirects {
		w.line("redirect", address)
	}
	w.line(append([]string{"scopes"}, c.Scopes...)...)
}
