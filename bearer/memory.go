package bearer

import (
	"strings"

	"usher/api"
)

// nearest is the time that counts: no sum with a life leaves an int, whatever now is.
func nearest(now int) int { return min(max(now, 0), api.MaxNow) }

// worth is what counts now of a token: what is remembered of it, else what ask tells; false: it is worth nothing.
func (g *Guard) worth(now int, token string, ask func(token string) []api.Member) (told, bool) {
	if t := g.held[token]; t.counts(now) {
		return t, true
	}
	t, good := read(now, answerOf(ask, token))
	if good && g.life > 0 {
		g.remember(now, token, t)
	}
	return t, good
}

// remember puts what was told behind all that was told ahead of it. What was remembered of this token does not count now, or nobody had been asked: it is dropped with what else does not.
func (g *Guard) remember(now int, token string, t told) {
	for other, earlier := range g.held {
		if !earlier.counts(now) {
			delete(g.held, other)
		}
	}
	if len(g.held) >= api.MaxHeld {
		delete(g.held, g.toldFirst())
	}
	g.last++
	t.number = g.last
	t.until = min(t.until, now+g.life)
	g.held[strings.Clone(token)] = t.own()
}

// toldFirst is the token of the least number.
func (g *Guard) toldFirst() string {
	first, least := "", g.last+1
	for token, t := range g.held {
		if t.number < least {
			first, least = token, t.number
		}
	}
	return first
}
