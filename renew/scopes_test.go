package renew_test

import (
	"slices"
	"strings"
	"testing"

	"usher/api"
)

// TestScopes: what is asked for must be within what the refresh token has; the token gets just that, the next refresh token all that the old one had.
func TestScopes(t *testing.T) {
	many := strings.Split("abcdefghijklmnop", "")
	for _, c := range []struct {
		had   []string
		asked []string // the values of scope
		want  string   // empty: invalid_scope
	}{
		{all, nil, "offline_access read write"}, {all, []string{""}, "offline_access read write"}, {all, []string{"", ""}, "offline_access read write"}, {[]string{"read"}, nil, "read"},
		{all, []string{"read"}, "read"}, {all, []string{"", "read", ""}, "read"}, {all, []string{"write read"}, "read write"}, {all, []string{"write read write"}, "read write"}, {all, []string{"read read read"}, "read"}, {all, []string{"offline_access"}, "offline_access"}, {all, []string{"write offline_access read"}, "offline_access read write"},
		{all, []string{"admin"}, ""}, {all, []string{"read admin"}, ""}, {all, []string{"read write offline_access admin"}, ""}, {[]string{"read"}, []string{"write"}, ""}, {[]string{"read"}, []string{"read write"}, ""}, {[]string{"read"}, []string{"offline_access"}, ""}, {all, []string{"READ"}, ""}, {all, []string{"rea"}, ""}, {all, []string{"readwrite"}, ""},
		{all, []string{" "}, ""}, {all, []string{" read"}, ""}, {all, []string{"read "}, ""}, {all, []string{"read  write"}, ""}, {all, []string{"read\nwrite"}, ""}, {all, []string{"read\\"}, ""}, {all, []string{"\xff"}, ""}, {all, []string{"%72ead"}, ""}, {all, []string{"read+write"}, ""},
		{many, nil, strings.Join(many, " ")}, {many, []string{strings.Join(many, " ")}, strings.Join(many, " ")}, {many, []string{strings.Join(many, " ") + " q"}, ""}, {many, []string{strings.Repeat("a ", 16) + "a"}, "a"}, {many, []string{"p a"}, "a p"},
		{[]string{"!", strings.Repeat("s", 32), "~"}, []string{"~ " + strings.Repeat("s", 32)}, strings.Repeat("s", 32) + " ~"}, {[]string{"!", strings.Repeat("s", 32)}, []string{strings.Repeat("s", 33)}, ""},
	} {
		b := newBench(t, config(), 1)
		b.family(1, 2, 3, "web", 5, c.had...)
		b.push(10, 11)
		lies := look(b.disk)
		asked := renewing(6, web(), with(showing(id(3)), "scope", c.asked...))
		if c.want == "" {
			b.must(refused("invalid_scope"), asked)
			b.mustHold(lies)
			b.mustLive(6, 3, true)
			continue
		}
		b.must(given(id(10), id(11), c.want), asked)
		b.mustHold(lies, []api.Record{turnedRecord(id(3)), tokenRecord(id(10), id(1), "web", 6, strings.Split(c.want, " ")...), refreshRecord(id(11), id(1), "web", 6, c.had...)})
	}
}

// TestNarrowerRefreshTokens: what counts is what the refresh token has, not what the code or the client has.
func TestNarrowerRefreshTokens(t *testing.T) {
	b := newBench(t, config(), 1)
	b.family(1, 2, 3, "web", 5, all...)
	b.commit(refreshRecord(id(4), id(1), "web", 5, "read"))
	b.push(10, 11, 12, 13)
	b.must(refused("invalid_scope"), renewing(6, web(), showing(id(4), "scope", "read write")))
	b.must(refused("invalid_scope"), renewing(6, web(), showing(id(4), "scope", "offline_access")))
	b.must(given(id(10), id(11), "read"), renewing(6, web(), showing(id(4))))
	b.must(refused("invalid_scope"), renewing(6, web(), showing(id(11), "scope", "write")))
	b.must(given(id(12), id(13), "read"), renewing(6, web(), showing(id(11), "scope", "read")))
	if got, ok := b.store.Refresh(id(13)); !ok || !slices.Equal(got.Scopes, []string{"read"}) {
		t.Errorf("P18.5: the store has %+v, %v", got, ok)
	}
}

// TestATokenNarrowsNothing: behind a token with few scopes the next one may have all again.
func TestATokenNarrowsNothing(t *testing.T) {
	b := newBench(t, config(), 1)
	b.family(1, 2, 3, "web", 5, all...)
	b.push(10, 11, 12, 13, 14, 15)
	b.must(given(id(10), id(11), "read"), renewing(6, web(), showing(id(3), "scope", "read")))
	b.must(given(id(12), id(13), "write"), renewing(6, web(), showing(id(11), "scope", "write")))
	b.must(given(id(14), id(15), "offline_access read write"), renewing(6, web(), showing(id(13))))
	for refresh, token := range map[byte][]string{11: {"read"}, 13: {"write"}, 15: all} {
		if got, ok := b.store.Refresh(id(refresh)); !ok || !slices.Equal(got.Scopes, all) {
			t.Errorf("P18.5: the store has %+v, %v", got, ok)
		}
		if got, ok := b.store.Token(id(refresh - 1)); !ok || !slices.Equal(got.Scopes, token) {
			t.Errorf("P18.5: the store has %+v, %v", got, ok)
		}
	}
}
