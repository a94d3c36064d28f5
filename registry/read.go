package registry

import (
	"slices"
	"strconv"
	"strings"

	"usher/api"
	"usher/radix"
	"usher/terms"
)

// maxDigits of a number in a text; so many always fit into an int.
const maxDigits = 10

// A fault is what a reader gives up with: the number of a line, and the refusal.
type fault struct {
	line int
	err  error
}

// A reader is what was said ahead of the line that it is at.
type reader struct {
	config api.Config
	said   [len(numbers)]bool
	line   int
}

// placeAndError takes a panic apart. One that is no fault has no line, but is a refusal too: nothing was read.
func placeAndError(caught any) (int, error) {
	if f, ok := caught.(fault); ok {
		return f.line, f.err
	}
	return 0, api.ErrText
}

// refuseIf gives up the whole text. A line's handler calls it in the order of the refusals.
func (r *reader) refuseIf(wrong bool, err error) {
	if wrong {
		panic(fault{r.line, err})
	}
}

func readLines(text string) api.Config {
	r := &reader{}
	for line := range strings.Lines(text) {
		r.line++
		r.readLine(strings.TrimSuffix(line, "\n"))
	}
	r.line++
	r.refuseIf(r.isShort(), api.ErrShort)
	return r.config
}

func (r *reader) isShort() bool {
	for _, said := range r.said[:neededNumbers] {
		if !said {
			return true
		}
	}
	return slices.ContainsFunc(r.config.Clients, isShortClient)
}

func isShortClient(c api.Client) bool {
	return len(c.Redirects) == 0 || len(c.Scopes) == 0
}

// readLine looks for a comment first: any bytes may stand in one.
func (r *reader) readLine(line string) {
	words := wordsOf(line)
	if len(words) == 0 || words[0][0] == '#' {
		return
	}
	r.refuseIf(!isPlain(line), api.ErrText)
	switch words[0] {
	case "client":
		r.readClient(words)
	case "redirect":
		r.readRedirect(words)
	case "scopes":
		r.readScopes(words)
	case "user":
		r.readUser(words)
	default:
		r.readNumber(words)
	}
}

func wordsOf(line string) []string {
	return strings.FieldsFunc(line, isBlank)
}

func isBlank(letter rune) bool {
	return letter == ' '
}

func isPlain(line string) bool {
	for i := range len(line) {
		if line[i] < 0x20 || line[i] > 0x7e {
			return false
		}
	}
	return true
}

func (r *reader) readNumber(words []string) {
	at := numberOf(words[0])
	r.refuseIf(at < 0 || len(words) != 2 || !isDecimal(words[1]), api.ErrText)
	value, err := strconv.Atoi(words[1])
	r.refuseIf(err != nil || !numbers[at].takes(value), api.ErrArg)
	r.refuseIf(r.said[at], api.ErrTwice)
	r.said[at] = true
	*places(&r.config)[at] = value
}

// isDecimal refuses a 0 ahead of other digits: a number has one spelling.
func isDecimal(s string) bool {
	return s != "" && len(s) <= maxDigits && strings.Trim(s, "0123456789") == "" && (s == "0" || s[0] != '0')
}

func (r *reader) readClient(words []string) {
	client := r.clientOf(words)
	r.refuseIf(!terms.Name(client.ID) || !isClientSecret(client), api.ErrArg)
	_, known := FindClient(r.config, client.ID)
	r.refuseIf(known, api.ErrTwice)
	r.refuseIf(len(r.config.Clients) == api.MaxClients, api.ErrMany)
	r.config.Clients = append(r.config.Clients, client)
}

func (r *reader) clientOf(words []string) api.Client {
	switch {
	case len(words) == 3 && words[2] == "public":
		return api.Client{ID: words[1], Public: true}
	case len(words) == 5 && words[2] == "secret":
		return api.Client{ID: words[1], Secret: r.secretOf(words[3], words[4])}
	}
	panic(fault{r.line, api.ErrText})
}

func (r *reader) secretOf(salt, digest string) api.Secret {
	return api.Secret{Salt: r.rawOf(salt), Digest: r.rawOf(digest)}
}

func (r *reader) rawOf(digits string) string {
	raw, err := radix.UnHex(digits)
	r.refuseIf(err != nil, api.ErrText)
	return raw
}

func (r *reader) readRedirect(words []string) {
	r.refuseIf(len(words) != 2 || len(r.config.Clients) == 0, api.ErrText)
	client, address := r.lastClient(), words[1]
	r.refuseIf(!terms.Redirect(address), api.ErrArg)
	r.refuseIf(slices.Contains(client.Redirects, address), api.ErrTwice)
	r.refuseIf(len(client.Redirects) == api.MaxRedirects, api.ErrMany)
	client.Redirects = append(client.Redirects, address)
}

func (r *reader) readScopes(words []string) {
	r.refuseIf(len(words) < 2 || len(r.config.Clients) == 0, api.ErrText)
	client, scopes := r.lastClient(), slices.Sorted(slices.Values(words[1:]))
	r.refuseIf(!all(scopes, isScope), api.ErrArg)
	r.refuseIf(len(client.Scopes) > 0 || !isRising(scopes), api.ErrTwice)
	r.refuseIf(len(scopes) > api.MaxScopes, api.ErrMany)
	client.Scopes = scopes
}

// lastClient leans on its caller's having seen that there is one.
func (r *reader) lastClient() *api.Client {
	return &r.config.Clients[len(r.config.Clients)-1]
}

func (r *reader) readUser(words []string) {
	r.refuseIf(len(words) != 4, api.ErrText)
	user := api.User{Name: words[1], Secret: r.secretOf(words[2], words[3])}
	r.refuseIf(!isUser(user), api.ErrArg)
	_, known := FindUser(r.config, user.Name)
	r.refuseIf(known, api.ErrTwice)
	r.refuseIf(len(r.config.Users) == api.MaxUsers, api.ErrMany)
	r.config.Users = append(r.config.Users, user)
}
