package record

import (
	"slices"

	"usher/api"
	"usher/pkce"
	"usher/radix"
	"usher/terms"
)

// The fields of a record, as flags of which sums are made.
const (
	hasID = 1 << iota
	hasUser
	hasClient
	hasRedirect
	hasChallenge
	hasCode
	hasScopes
	hasAt
)

// kindFields is which fields each kind names. There is no kind 0: it names none.
var kindFields = [...]int{
	api.RecSession:   hasID | hasUser | hasAt,
	api.RecEnded:     hasID,
	api.RecConsent:   hasUser | hasClient | hasScopes | hasAt,
	api.RecCode:      hasID | hasUser | hasClient | hasRedirect | hasChallenge | hasScopes | hasAt,
	api.RecRedeemed:  hasID,
	api.RecToken:     hasID | hasUser | hasClient | hasCode | hasScopes | hasAt,
	api.RecRevoked:   hasID,
	api.RecBurned:    hasID,
	api.RecRefresh:   hasID | hasUser | hasClient | hasCode | hasScopes | hasAt,
	api.RecTurned:    hasID,
	api.RecWithdrawn: hasUser | hasClient,
}

func isKind(kind int) bool {
	return kind > 0 && kind < len(kindFields)
}

func names(kind, field int) bool {
	return isKind(kind) && kindFields[kind]&field != 0
}

// mayBe: may r be a record?
func mayBe(r api.Record) bool {
	return isKind(r.Kind) &&
		textFits(names(r.Kind, hasID), r.ID, isIdentifier) &&
		textFits(names(r.Kind, hasUser), r.User, terms.Name) &&
		textFits(names(r.Kind, hasClient), r.Client, terms.Name) &&
		textFits(names(r.Kind, hasRedirect), r.Redirect, terms.Redirect) &&
		textFits(names(r.Kind, hasChallenge), r.Challenge, pkce.Challenge) &&
		textFits(names(r.Kind, hasCode), r.Code, isIdentifier) &&
		scopesFit(names(r.Kind, hasScopes), r.Scopes) &&
		timeFits(names(r.Kind, hasAt), r.At)
}

func textFits(isNamed bool, text string, passes func(string) bool) bool {
	if !isNamed {
		return text == ""
	}
	return passes(text)
}

func scopesFit(isNamed bool, scopes []string) bool {
	if !isNamed {
		return len(scopes) == 0
	}
	return len(scopes) > 0 && len(scopes) <= api.MaxScopes && isRising(scopes) && !slices.ContainsFunc(scopes, isNoScope)
}

func timeFits(isNamed bool, at int) bool {
	if !isNamed {
		return at == 0
	}
	return at >= 0 && at <= api.MaxNow
}

func isIdentifier(s string) bool {
	draw, err := radix.UnUrl(s)
	return err == nil && len(draw) == api.DrawBytes
}

// isNoScope asks for s itself, as of a scope that stands twice in s one is answered too.
func isNoScope(s string) bool {
	scopes, err := terms.Scopes(s)
	return err != nil || !slices.Equal(scopes, []string{s})
}

// isRising: is each text below the next one, so that none is there twice?
func isRising(list []string) bool {
	for i := range len(list) - 1 {
		if list[i] >= list[i+1] {
			return false
		}
	}
	return true
}
