package client

import (
	"slices"
	"strings"

	"usher/api"
	"usher/jsonobj"
	"usher/terms"
)

// The members of the objects that are answered.
const (
	accessToken  = "access_token"
	tokenType    = "token_type"
	expiresIn    = "expires_in"
	scopeMember  = "scope"
	refreshToken = "refresh_token"
	errorMember  = "error"
)

// The statuses that are told from all others.
const (
	good       = 200
	badRequest = 400
)

// redeemed takes the answer to a Redeem. A refresh token of another code is given up with its token.
func (c *Client) redeemed(now int, r api.Reply) error {
	if r.Status != good {
		return c.refused(r)
	}
	refresh, err := c.take(now, r)
	if err == nil {
		c.refresh = refresh
	}
	return err
}

// renewed takes the answer to a Renew. A refresh token that is refused as such is never good again.
func (c *Client) renewed(now int, r api.Reply) error {
	if r.Status != good {
		err := c.refused(r)
		if err == api.ErrDenied && r.Status == badRequest {
			c.refresh = ""
		}
		return err
	}
	refresh, err := c.take(now, r)
	if refresh != "" {
		c.refresh = refresh
	}
	return err
}

// dropped takes the answer to a Drop.
func (c *Client) dropped(_ int, r api.Reply) error {
	if r.Status != good {
		return c.refused(r)
	}
	c.token, c.refresh, c.failure = token{}, "", ""
	return nil
}

// refused takes an answer that does not give what was asked for.
func (c *Client) refused(r api.Reply) error {
	reason := memberOf(objectIn(r), errorMember)
	if !isFilled(reason) {
		return api.ErrText
	}
	c.failure = strings.Clone(reason.Text)
	return api.ErrDenied
}

// take takes the token that an answer gives; it answers the refresh token beside it, empty if there is none.
func (c *Client) take(now int, r api.Reply) (string, error) {
	object := objectIn(r)
	if !c.isToken(object) {
		return "", api.ErrText
	}
	scopes, _ := terms.Scopes(memberOf(object, scopeMember).Text)
	c.token = token{
		text:   strings.Clone(memberOf(object, accessToken).Text),
		end:    now + memberOf(object, expiresIn).Num,
		scopes: ownTexts(scopes),
	}
	c.failure = ""
	return strings.Clone(memberOf(object, refreshToken).Text), nil
}

// objectIn is the members of the object in an answer. What is no object has none, and so lacks all that is asked for.
func objectIn(r api.Reply) []api.Member {
	object, _ := jsonobj.Read(r.Body)
	return object
}

// memberOf is the member of that name; one of no kind, if there is none.
func memberOf(object []api.Member, name string) api.Member {
	at := slices.IndexFunc(object, func(m api.Member) bool { return m.Name == name })
	if at < 0 {
		return api.Member{}
	}
	return object[at]
}

// nearest is the time that counts: no sum with a life leaves an int, whatever now is.
func nearest(now int) int { return min(max(now, 0), api.MaxNow) }

// ownTexts is the same texts in a list of just their number: neither keeps more alive than what it says.
func ownTexts(texts []string) []string {
	own := make([]string, len(texts))
	for i, text := range texts {
		own[i] = strings.Clone(text)
	}
	return own
}
