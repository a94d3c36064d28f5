package registry

import (
	"slices"

	"usher/api"
	"usher/terms"
)

const digestBytes = 32

func hasTooMany(c api.Config) bool {
	return len(c.Clients) > api.MaxClients || len(c.Users) > api.MaxUsers || slices.ContainsFunc(c.Clients, clientHasTooMany)
}

func clientHasTooMany(c api.Client) bool {
	return len(c.Redirects) > api.MaxRedirects || len(c.Scopes) > api.MaxScopes
}

// isFit: may each part of c be so, for itself?
func isFit(c api.Config) bool {
	for i, place := range places(&c) {
		if !numbers[i].takes(*place) {
			return false
		}
	}
	return all(c.Clients, isClient) && all(c.Users, isUser)
}

func isClient(c api.Client) bool {
	return terms.Name(c.ID) && isClientSecret(c) &&
		len(c.Redirects) > 0 && all(c.Redirects, terms.Redirect) &&
		len(c.Scopes) > 0 && all(c.Scopes, isScope) && isRising(c.Scopes)
}

func isClientSecret(c api.Client) bool {
	if c.Public {
		return c.Secret == api.Secret{}
	}
	return isSecret(c.Secret)
}

func isUser(u api.User) bool {
	return terms.Name(u.Name) && isSecret(u.Secret)
}

func isSecret(s api.Secret) bool {
	return s.Salt != "" && len(s.Salt) <= api.MaxSalt && len(s.Digest) == digestBytes
}

// isScope asks for s itself: of a scope that stands twice in s one is answered too.
func isScope(s string) bool {
	scopes, err := terms.Scopes(s)
	return err == nil && slices.Equal(scopes, []string{s})
}

// isRising: is each of a list below the next one, so that none is there twice?
func isRising(list []string) bool {
	for i := range len(list) - 1 {
		if list[i] >= list[i+1] {
			return false
		}
	}
	return true
}

func all[T any](list []T, passes func(T) bool) bool {
	for _, thing := range list {
		if !passes(thing) {
			return false
		}
	}
	return true
}

func hasTwice(c api.Config) bool {
	return repeats(clientIDs(c.Clients)) || repeats(userNames(c.Users)) || slices.ContainsFunc(c.Clients, repeatsAddress)
}

func repeatsAddress(c api.Client) bool {
	return repeats(c.Redirects)
}

func repeats(list []string) bool {
	for i, text := range list {
		if slices.Contains(list[:i], text) {
			return true
		}
	}
	return false
}

func clientIDs(clients []api.Client) []string {
	ids := make([]string, len(clients))
	for i, c := range clients {
		ids[i] = c.ID
	}
	return ids
}

func userNames(users []api.User) []string {
	names := make([]string, len(users))
	for i, u := range users {
		names[i] = u.Name
	}
	return names
}
