package registry_test

import (
	"encoding/hex"
	"fmt"
	"regexp"
	"slices"
	"sort"
	"strconv"
	"strings"

	"usher/api"
	"usher/terms"
)

// textOf writes a configuration as the chapter tells it.
func textOf(c api.Config) string {
	text := ""
	for i, r := range rows() {
		if value := *r.place(&c); i < 8 || value != 0 {
			text += fmt.Sprintf("%s %d\n", r.word, value)
		}
	}
	for _, client := range c.Clients {
		if client.Public {
			text += fmt.Sprintf("client %s public\n", client.ID)
		} else {
			text += fmt.Sprintf("client %s secret %x %x\n", client.ID, client.Secret.Salt, client.Secret.Digest)
		}
		for _, address := range client.Redirects {
			text += fmt.Sprintf("redirect %s\n", address)
		}
		text += fmt.Sprintf("scopes %s\n", strings.Join(client.Scopes, " "))
	}
	for _, user := range c.Users {
		text += fmt.Sprintf("user %s %x %x\n", user.Name, user.Secret.Salt, user.Secret.Digest)
	}
	return text
}

// The forms of a line whose words have one blank between each two.
var (
	numberLine   = regexp.MustCompile(`\A(\S+) (0|[1-9][0-9]{0,9})\z`)
	publicLine   = regexp.MustCompile(`\Aclient (\S+) public\z`)
	secretLine   = regexp.MustCompile(`\Aclient (\S+) secret ((?:[0-9a-f]{2})+) ((?:[0-9a-f]{2})+)\z`)
	redirectLine = regexp.MustCompile(`\Aredirect (\S+)\z`)
	scopesLine   = regexp.MustCompile(`\Ascopes( \S+)+\z`)
	userLine     = regexp.MustCompile(`\Auser (\S+) ((?:[0-9a-f]{2})+) ((?:[0-9a-f]{2})+)\z`)
	manyBlanks   = regexp.MustCompile(` +`)
	plainLine    = regexp.MustCompile(`\A[ -~]*\z`)
	nameForm     = regexp.MustCompile(`\A[!-~]{1,64}\z`)
	scopeForm    = regexp.MustCompile(`\A[!#-\[\]-~]{1,32}\z`)
)

// A model reads a text by expressions and collects all refusals of a line.
type model struct {
	config api.Config
	said   map[string]bool
	found  map[error]bool
}

func (m *model) wrong(is bool, err error) {
	if is {
		m.found[err] = true
	}
}

// readByModel is Read as the chapter tells it.
func readByModel(text string) (api.Config, int, error) {
	if len(text) > 262144 {
		return api.Config{}, 0, api.ErrMany
	}
	lines := strings.Split(text, "\n")
	if lines[len(lines)-1] == "" {
		lines = lines[:len(lines)-1]
	}
	m := &model{said: map[string]bool{}}
	for i, line := range lines {
		m.found = map[error]bool{}
		m.read(line)
		for _, err := range []error{api.ErrText, api.ErrArg, api.ErrTwice, api.ErrMany} {
			if m.found[err] {
				return api.Config{}, i + 1, err
			}
		}
	}
	for _, r := range rows()[:8] {
		if !m.said[r.word] {
			return api.Config{}, len(lines) + 1, api.ErrShort
		}
	}
	for _, client := range m.config.Clients {
		if client.Redirects == nil || client.Scopes == nil {
			return api.Config{}, len(lines) + 1, api.ErrShort
		}
	}
	return m.config, 0, nil
}

func (m *model) read(line string) {
	bare := strings.Trim(line, " ")
	if bare == "" || bare[0] == '#' {
		return
	}
	if !plainLine.MatchString(line) {
		m.wrong(true, api.ErrText)
		return
	}
	bare = manyBlanks.ReplaceAllString(bare, " ")
	switch {
	case publicLine.MatchString(bare):
		m.client(publicLine.FindStringSubmatch(bare)[1], true, api.Secret{})
	case secretLine.MatchString(bare):
		parts := secretLine.FindStringSubmatch(bare)
		m.client(parts[1], false, secretIn(parts[2:]))
	case userLine.MatchString(bare):
		parts := userLine.FindStringSubmatch(bare)
		m.user(parts[1], secretIn(parts[2:]))
	case redirectLine.MatchString(bare) && len(m.config.Clients) > 0:
		m.redirect(bare[len("redirect "):])
	case scopesLine.MatchString(bare) && len(m.config.Clients) > 0:
		m.scopes(strings.Split(bare, " ")[1:])
	case numberLine.MatchString(bare):
		parts := numberLine.FindStringSubmatch(bare)
		m.number(parts[1], parts[2])
	default:
		m.wrong(true, api.ErrText)
	}
}

func secretIn(digits []string) api.Secret {
	salt, _ := hex.DecodeString(digits[0])
	digest, _ := hex.DecodeString(digits[1])
	return api.Secret{Salt: string(salt), Digest: string(digest)}
}

func isWrongSecret(s api.Secret) bool {
	return len(s.Salt) < 1 || len(s.Salt) > 64 || len(s.Digest) != 32
}

func (m *model) number(word, digits string) {
	at := slices.IndexFunc(rows(), func(r row) bool { return r.word == word })
	if at < 0 {
		m.wrong(true, api.ErrText)
		return
	}
	r := rows()[at]
	value, _ := strconv.Atoi(digits)
	m.wrong(value < r.least || value > r.greatest, api.ErrArg)
	m.wrong(m.said[word], api.ErrTwice)
	m.said[word] = true
	*r.place(&m.config) = value
}

func (m *model) client(id string, public bool, secret api.Secret) {
	m.wrong(!nameForm.MatchString(id), api.ErrArg)
	m.wrong(!public && isWrongSecret(secret), api.ErrArg)
	for _, other := range m.config.Clients {
		m.wrong(other.ID == id, api.ErrTwice)
	}
	m.wrong(len(m.config.Clients) >= 64, api.ErrMany)
	m.config.Clients = append(m.config.Clients, api.Client{ID: id, Public: public, Secret: secret})
}

func (m *model) user(name string, secret api.Secret) {
	m.wrong(!nameForm.MatchString(name) || isWrongSecret(secret), api.ErrArg)
	for _, other := range m.config.Users {
		m.wrong(other.Name == name, api.ErrTwice)
	}
	m.wrong(len(m.config.Users) >= 64, api.ErrMany)
	m.config.Users = append(m.config.Users, api.User{Name: name, Secret: secret})
}

func (m *model) redirect(address string) {
	last := &m.config.Clients[len(m.config.Clients)-1]
	m.wrong(!terms.Redirect(address), api.ErrArg)
	m.wrong(slices.Contains(last.Redirects, address), api.ErrTwice)
	m.wrong(len(last.Redirects) >= 8, api.ErrMany)
	last.Redirects = append(last.Redirects, address)
}

func (m *model) scopes(words []string) {
	last := &m.config.Clients[len(m.config.Clients)-1]
	times := map[string]int{}
	for _, word := range words {
		times[word]++
		m.wrong(!scopeForm.MatchString(word), api.ErrArg)
		m.wrong(times[word] > 1, api.ErrTwice)
	}
	m.wrong(last.Scopes != nil, api.ErrTwice)
	m.wrong(len(words) > 16, api.ErrMany)
	last.Scopes = slices.Clone(words)
	sort.Strings(last.Scopes)
}
