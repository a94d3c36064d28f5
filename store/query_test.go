package store_test

import (
	"math/rand"
	"slices"
	"sort"
	"strconv"
	"strings"
	"testing"

	"usher/api"
	"usher/disk"
	"usher/store"
)

// TestKnown over all four kinds, in every state that they may be in; and over what is none.
func TestKnown(t *testing.T) {
	s, d := begun(t, estate()...)
	all := []string{aSession, anEnded, unusedCode, usedCode, burnedCode, othersCode, aToken, aRevoked, aRefresh, aTurned, burnedToken, burnedRefresh}
	for _, s := range []*store.Store{s, mustOpen(t, d)} {
		for _, id := range all {
			if !s.Known(id) {
				t.Errorf("P15.4: Known(%q) = false", id)
			}
			for _, other := range []string{id[:42], id + "A", " " + id, strings.ToUpper(id), strings.ToLower(id), id[:42] + "B", id + "\x00"} {
				if s.Known(other) != slices.Contains(all, other) {
					t.Errorf("P15.4: Known(%q) = %v", other, s.Known(other))
				}
			}
		}
		for _, id := range []string{"", "ann", "app", "a", address, challenge, fresh} {
			if s.Known(id) {
				t.Errorf("P15.4: Known(%q) = true", id)
			}
		}
	}
}

// TestNothingIsThere: zero values and false, where nothing was kept, or it was taken for another kind.
func TestNothingIsThere(t *testing.T) {
	s, _ := begun(t)
	mustKeep(t, s, api.State{})
	s, _ = begun(t, estate()...)
	mustKeep(t, s, stateOf(estate()...)) // asks for every identifier as each of the four kinds
	for _, w := range []who{{"ann", ""}, {"", "app"}, {"", ""}, {"app", "ann"}, {"annapp", ""}, {"", "annapp"}, {"bob", "web"}, {"an", "napp"}} {
		if got, ok := s.Consent(w.user, w.client); ok || got.User != "" || got.Client != "" || got.At != 0 || len(got.Scopes) != 0 {
			t.Errorf("P15.4: Consent(%v) = %v, %v", w, got, ok)
		}
	}
	for _, user := range []string{"", "an", "annn", "Ann", "app", "carl", "ann ", "ann\x00"} {
		if got := s.Consents(user); len(got) != 0 {
			t.Errorf("P15.4: Consents(%q) = %v", user, got)
		}
	}
}

// alike is users and clients that would be mistaken for one another if they were joined, by any byte that a name may have or by none.
func alike() []who {
	list := []who{{"a", "bc"}, {"ab", "c"}, {"abc", "abc"}, {"bc", "a"}, {"c", "ab"}, {"a", "b"}, {"b", "a"}, {"aa", "a"}, {"a", "aa"}}
	for _, by := range "!/|:,;&~" {
		b := string(by)
		list = append(list, who{"a" + b + "b", "c"}, who{"a", "b" + b + "c"}, who{"a" + b, "b"}, who{"a", b + "b"}, who{b, b + b}, who{b + b, b})
	}
	return list
}

// TestAlikeNames: each keeps its own consent, and only its own codes go with it.
func TestAlikeNames(t *testing.T) {
	list := alike()
	s, d := begun(t)
	for i, w := range list {
		mustCommit(t, s, nil, consent(w, i, "s"+strconv.Itoa(i)), code(id(byte(i)), w, i, "a"))
	}
	for _, s := range []*store.Store{s, mustOpen(t, d)} {
		for i, w := range list {
			if got, ok := s.Consent(w.user, w.client); !ok || got.At != i || got.User != w.user || got.Client != w.client || !slices.Equal(got.Scopes, []string{"s" + strconv.Itoa(i)}) {
				t.Errorf("P15.4: Consent(%v) = %v, %v", w, got, ok)
			}
		}
		if st := s.State(); len(st.Consents) != len(list) {
			t.Errorf("P15.5: %d consents, want %d", len(st.Consents), len(list))
		}
	}
	for i, w := range list {
		mustCommit(t, s, nil, withdrawn(w))
		for j, other := range list {
			_, ok := s.Consent(other.user, other.client)
			c, _ := s.Code(id(byte(j)))
			if gone := j <= i; ok == gone || c.Used != gone || c.Burned != gone {
				t.Fatalf("P15.9: %v taken back: consent of %v %v, its code %v", w, other, ok, c)
			}
		}
	}
}

// TestAlikeNamesOfACode: what comes of it must be of the very user and the very client.
func TestAlikeNamesOfACode(t *testing.T) {
	s, d := begun(t)
	list := append(alike(), anns, who{"an", "napp"}, who{"pann", "ap"}, who{"app", "ann"})
	for i, w := range list {
		mustCommit(t, s, nil, code(id(byte(i)), w, i, "a"), redeemed(id(byte(i))))
	}
	before, lies := s.State(), look(d)
	for i := range list {
		for j, w := range list {
			if i != j {
				mustCommit(t, s, api.ErrLost, token(id(200), id(byte(i)), w, 1, "a"))
				mustCommit(t, s, api.ErrLost, refresh(id(200), id(byte(i)), w, 1, "a"))
			}
		}
	}
	mustKeep(t, s, before)
	mustLie(t, d, lies)
}

// byBytes is texts whose order is another one by letters, by length or by numbers than by bytes.
func byBytes() []string {
	return []string{"!", "-", "10", "2", "9", "A", "AB", "Aa", "B", "Z", "_", "a", "a!", "a-", "a0", "aA", "aB", "aa", "ab", "b", "~"}
}

// TestOrderOfConsents: by user, then by client, byte by byte, in whatever order they came.
func TestOrderOfConsents(t *testing.T) {
	names := byBytes()
	random := rand.New(rand.NewSource(1))
	for range 5 {
		s, _ := begun(t)
		for _, i := range random.Perm(len(names) * len(names)) {
			mustCommit(t, s, nil, consent(who{names[i/len(names)], names[i%len(names)]}, i, "a"))
		}
		all := s.State().Consents
		for i, c := range all {
			if c.At != i {
				t.Fatalf("P15.5: consent %d of State is %v", i, c)
			}
		}
		for u, user := range names {
			list := s.Consents(user)
			if len(list) != len(names) {
				t.Fatalf("P15.4: Consents(%q): %d, want %d", user, len(list), len(names))
			}
			for i, c := range list {
				if c.At != u*len(names)+i || c.User != user {
					t.Fatalf("P15.4: consent %d of Consents(%q) is %v", i, user, c)
				}
			}
		}
	}
}

// TestOrderOfThings: by identifier, byte by byte: `-` ahead of digits, these ahead of capital letters, then `_`, then small ones.
func TestOrderOfThings(t *testing.T) {
	random := rand.New(rand.NewSource(2))
	var ids []string
	for i := range 256 {
		ids = append(ids, id(byte(i)))
	}
	s, d := begun(t, tx(code(strings.Repeat("A", 42)+"E", anns, 1, "a"), redeemed(strings.Repeat("A", 42)+"E")))
	for n, i := range random.Perm(256) {
		mustCommit(t, s, nil, [][]api.Record{
			tx(session(ids[i], "ann", 1)), tx(code(ids[i], anns, 1, "a")),
			tx(token(ids[i], strings.Repeat("A", 42)+"E", anns, 1, "a")), tx(refresh(ids[i], strings.Repeat("A", 42)+"E", anns, 1, "a")),
		}[n%4]...)
	}
	for _, s := range []*store.Store{s, mustOpen(t, d)} {
		st := s.State()
		mustRise(t, st.Sessions, 64, func(v api.Session) string { return v.ID })
		mustRise(t, st.Codes, 65, func(v api.Code) string { return v.ID })
		mustRise(t, st.Tokens, 64, func(v api.Token) string { return v.ID })
		mustRise(t, st.Refreshes, 64, func(v api.Refresh) string { return v.ID })
	}
}

func mustRise[V any](t *testing.T, list []V, count int, key func(V) string) {
	t.Helper()
	var keys []string
	for _, v := range list {
		keys = append(keys, key(v))
	}
	if len(keys) != count || !sort.StringsAreSorted(keys) {
		t.Errorf("P15.5: %d of %d, rising %v", len(keys), count, sort.StringsAreSorted(keys))
	}
}

// TestScopesStandAsTheyWere, in the order of the record.
func TestScopesStandAsTheyWere(t *testing.T) {
	s, d := begun(t, tx(consent(anns, 1, byBytes()[:16]...), code(fresh, anns, 1, byBytes()[5:21]...), redeemed(fresh), token(fresh2, fresh, anns, 1, "A", "~")))
	for _, s := range []*store.Store{s, mustOpen(t, d)} {
		if got := must(s.Consent("ann", "app")).Scopes; !slices.Equal(got, byBytes()[:16]) {
			t.Errorf("P15.4: %v", got)
		}
		if got := must(s.Code(fresh)).Scopes; !slices.Equal(got, byBytes()[5:21]) {
			t.Errorf("P15.4: %v", got)
		}
		if got := must(s.Token(fresh2)).Scopes; !slices.Equal(got, []string{"A", "~"}) {
			t.Errorf("P15.4: %v", got)
		}
	}
}

// ask asks everything.
func ask(s *store.Store) {
	for _, id := range []string{"", aSession, usedCode, aToken, aRefresh, fresh} {
		s.Known(id)
		s.Session(id)
		s.Code(id)
		s.Token(id)
		s.Refresh(id)
		s.Consents(id)
	}
	for _, w := range []who{anns, bobs, {"", ""}, {"new", "one"}} {
		s.Consent(w.user, w.client)
		s.Consents(w.user)
	}
	s.State()
}

// TestAskingChangesNothing: neither what is kept, nor what can be committed, nor the disk.
func TestAskingChangesNothing(t *testing.T) {
	asked, d := begun(t)
	quiet, e := begun(t)
	for _, tx := range append(estate(), changes()[4], tx(ended(fresh)), tx(session(aSession, "x", 1)), changes()[8]) {
		mustNeed(t, d, 0, func() { ask(asked); ask(asked) })
		one, other := asked.Commit(tx), quiet.Commit(tx)
		if one != other {
			t.Errorf("P15.6: %v, where it was not asked %v", one, other)
		}
		ask(asked)
	}
	mustKeep(t, asked, quiet.State())
	want, _ := e.Look()
	mustLie(t, d, want)
}

// TestAskedTwice: many things, so that no order of a map shows, on a disk that is alive or dead.
func TestAskedTwice(t *testing.T) {
	d := disk.New(room)
	s := mustOpen(t, d)
	for i := range 100 {
		mustCommit(t, s, nil, session(id(byte(i)), "ann", i), code(id(byte(100+i)), anns, i, "a"), consent(who{"ann", strconv.Itoa(i)}, i, "a"))
	}
	want, list := s.State(), s.Consents("ann")
	for range 20 {
		if !isSame(s.State(), want) || !isSame(api.State{Consents: s.Consents("ann")}, api.State{Consents: list}) {
			t.Fatal("P15.6: asked again, it answers otherwise")
		}
	}
	d.Crash(0)
	mustKeep(t, s, want)
}
