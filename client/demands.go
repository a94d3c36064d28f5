package client

import (
	"strings"

	"usher/api"
	"usher/terms"
)

// demand is what a member of a token's object has to be.
type demand struct {
	name string
	must bool // does it have to be there?
	fits func(m api.Member) bool
}

// demands are those of a token's object.
func (c *Client) demands() []demand {
	return []demand{
		{name: accessToken, must: true, fits: isFilled},
		{name: tokenType, must: true, fits: isBearer},
		{name: expiresIn, must: true, fits: isLife},
		{name: scopeMember, must: true, fits: c.isWished},
		{name: refreshToken, must: false, fits: isFilled},
	}
}

// isToken: is that a token's object?
func (c *Client) isToken(object []api.Member) bool {
	for _, d := range c.demands() {
		m := memberOf(object, d.name)
		absent := m.Kind == 0
		if absent && d.must || !absent && !d.fits(m) {
			return false
		}
	}
	return true
}

// isFilled: is that a text that is not empty? (A member of another kind has no Text.)
func isFilled(m api.Member) bool { return m.Text != "" }

// isBearer leans on this: no letter of bearer has another form than the large and the small one.
func isBearer(m api.Member) bool { return strings.EqualFold(m.Text, "bearer") }

func isLife(m api.Member) bool {
	return m.Kind == api.MemNum && m.Num >= 0 && m.Num <= api.MaxLife
}

// isWished: are these scopes, and all of them among the wishes? More than was asked for would be another's token.
func (c *Client) isWished(m api.Member) bool {
	scopes, err := terms.Scopes(m.Text)
	return err == nil && terms.Within(scopes, c.wishes)
}
