package store_test

import (
	"bytes"
	"encoding/base64"
	"reflect"
	"slices"
	"strings"
	"testing"

	"usher/api"
	"usher/disk"
	"usher/record"
	"usher/store"
	"usher/wal"
)

const (
	address = "https://a.example/cb"
	room    = 1 << 20
)

var (
	challenge = strings.Repeat("c", 43)
	anns      = who{"ann", "app"}
)

// who is a user and a client.
type who struct{ user, client string }

// id is the identifier of 32 times that byte.
func id(b byte) string {
	return base64.RawURLEncoding.EncodeToString(bytes.Repeat([]byte{b}, 32))
}

func session(id, user string, at int) api.Record {
	return api.Record{Kind: api.RecSession, ID: id, User: user, At: at}
}

func ended(id string) api.Record { return api.Record{Kind: api.RecEnded, ID: id} }

func consent(w who, at int, scopes ...string) api.Record {
	return api.Record{Kind: api.RecConsent, User: w.user, Client: w.client, Scopes: scopes, At: at}
}

func code(id string, w who, at int, scopes ...string) api.Record {
	return api.Record{Kind: api.RecCode, ID: id, User: w.user, Client: w.client, Redirect: address, Challenge: challenge, Scopes: scopes, At: at}
}

func redeemed(id string) api.Record { return api.Record{Kind: api.RecRedeemed, ID: id} }

func token(id, code string, w who, at int, scopes ...string) api.Record {
	return api.Record{Kind: api.RecToken, ID: id, Code: code, User: w.user, Client: w.client, Scopes: scopes, At: at}
}

func refresh(id, code string, w who, at int, scopes ...string) api.Record {
	return api.Record{Kind: api.RecRefresh, ID: id, Code: code, User: w.user, Client: w.client, Scopes: scopes, At: at}
}

func turned(id string) api.Record  { return api.Record{Kind: api.RecTurned, ID: id} }
func revoked(id string) api.Record { return api.Record{Kind: api.RecRevoked, ID: id} }
func burned(id string) api.Record  { return api.Record{Kind: api.RecBurned, ID: id} }

func withdrawn(w who) api.Record {
	return api.Record{Kind: api.RecWithdrawn, User: w.user, Client: w.client}
}

// tx is a transaction.
func tx(records ...api.Record) []api.Record { return records }

// frame is a transaction on the disk.
func frame(tx []api.Record) []byte {
	payload, err := record.Pack(tx)
	if err != nil {
		panic("a test writes a transaction that may not be")
	}
	return frameOf(payload)
}

func frameOf(payload []byte) []byte {
	f, err := wal.Frame(payload)
	if err != nil {
		panic("a test writes a payload that may not be")
	}
	return f
}

// row is transactions on the disk, one behind the other.
func row(txs ...[]api.Record) []byte {
	var all []byte
	for _, tx := range txs {
		all = append(all, frame(tx)...)
	}
	return all
}

func join(parts ...[]byte) []byte { return bytes.Join(parts, nil) }

func mustOpen(t *testing.T, d *disk.Disk) *store.Store {
	t.Helper()
	s, err := store.Open(d)
	if err != nil || s == nil {
		t.Fatalf("P15.1: Open = %v, %v, want a store", s, err)
	}
	return s
}

// mustRefuse fails unless Open answers that error, and no store.
func mustRefuse(t *testing.T, d *disk.Disk, want error) {
	t.Helper()
	if s, err := store.Open(d); s != nil || err != want {
		t.Fatalf("P15.1: Open = %v, %v, want nil, %v", s, err, want)
	}
}

func mustCommit(t *testing.T, s *store.Store, want error, tx ...api.Record) {
	t.Helper()
	if err := s.Commit(tx); err != want {
		t.Fatalf("P15.2: Commit(%+v) = %v, want %v", tx, err, want)
	}
}

// begun is a store on an empty disk that has committed these transactions.
func begun(t *testing.T, txs ...[]api.Record) (*store.Store, *disk.Disk) {
	t.Helper()
	d := disk.New(room)
	s := mustOpen(t, d)
	for _, tx := range txs {
		mustCommit(t, s, nil, tx...)
	}
	return s, d
}

// mustHold fails unless just these transactions lie on the disk, all of it synced.
func mustHold(t *testing.T, d *disk.Disk, txs ...[]api.Record) {
	t.Helper()
	mustLie(t, d, row(txs...))
}

// mustLie fails unless just these bytes lie on the disk, all of them synced.
func mustLie(t *testing.T, d *disk.Disk, want []byte) {
	t.Helper()
	if got, synced := d.Look(); !bytes.Equal(got, want) || synced != len(want) {
		t.Fatalf("P15.2: %d bytes lie on the disk, %d synced, want %d: %.200x, want %.200x", len(got), synced, len(want), got, want)
	}
}

// mustNeed fails unless do takes just so many operations of the disk: an arm waits for the one behind them.
func mustNeed(t *testing.T, d *disk.Disk, operations int, do func()) {
	t.Helper()
	d.Arm(operations, room)
	do()
	if d.Dead() {
		t.Fatalf("P15.2: more than %d operations of the disk", operations)
	}
	if err := d.Sync(); err != api.ErrDead {
		t.Fatalf("P15.2: less than %d operations of the disk", operations)
	}
	d.Revive()
}

// plain takes lists without elements for nil, as nothing hangs on which they are.
func plain(s api.State) api.State {
	clean := func(scopes []string) []string { return append([]string(nil), scopes...) }
	s.Sessions = append([]api.Session(nil), s.Sessions...)
	s.Consents = append([]api.Consent(nil), s.Consents...)
	s.Codes = append([]api.Code(nil), s.Codes...)
	s.Tokens = append([]api.Token(nil), s.Tokens...)
	s.Refreshes = append([]api.Refresh(nil), s.Refreshes...)
	for i := range s.Consents {
		s.Consents[i].Scopes = clean(s.Consents[i].Scopes)
	}
	for i := range s.Codes {
		s.Codes[i].Scopes = clean(s.Codes[i].Scopes)
	}
	for i := range s.Tokens {
		s.Tokens[i].Scopes = clean(s.Tokens[i].Scopes)
	}
	for i := range s.Refreshes {
		s.Refreshes[i].Scopes = clean(s.Refreshes[i].Scopes)
	}
	return s
}

func isSame(a, b api.State) bool { return reflect.DeepEqual(plain(a), plain(b)) }

// mustKeep fails unless the store keeps just that, by its State and by every other query.
func mustKeep(t *testing.T, s *store.Store, want api.State) {
	t.Helper()
	if got := s.State(); !isSame(got, want) {
		t.Fatalf("P15.5: State() = %+v, want %+v", got, want)
	}
	mustFindThings(t, s, want)
	mustFindConsents(t, s, want)
}

// idsOf is all identifiers that are known in a State.
func idsOf(s api.State) []string {
	var ids []string
	for _, v := range s.Sessions {
		ids = append(ids, v.ID)
	}
	for _, v := range s.Codes {
		ids = append(ids, v.ID)
	}
	for _, v := range s.Tokens {
		ids = append(ids, v.ID)
	}
	for _, v := range s.Refreshes {
		ids = append(ids, v.ID)
	}
	return ids
}

// found is the element of that identifier in a list of a State, and whether it is there; else the zero value.
func found[V any](list []V, isIt func(V) bool) (V, bool) {
	if i := slices.IndexFunc(list, isIt); i >= 0 {
		return list[i], true
	}
	var zero V
	return zero, false
}

// mustAnswer fails unless a query answers what it must.
func mustAnswer[V any](t *testing.T, query string, got V, ok bool, want V, there bool) {
	t.Helper()
	if ok != there || !reflect.DeepEqual(got, want) {
		t.Fatalf("P15.4: %s = %+v, %v, want %+v, %v", query, got, ok, want, there)
	}
}

// mustFindThings asks for every identifier of a State, as each of the four kinds, and for some that are not there.
func mustFindThings(t *testing.T, s *store.Store, want api.State) {
	t.Helper()
	known := idsOf(want)
	for _, id := range append(slices.Clone(known), "", id(250), strings.Repeat("A", 43), "ann") {
		if got := s.Known(id); got != slices.Contains(known, id) {
			t.Fatalf("P15.4: Known(%q) = %v", id, got)
		}
		wantSession, there := found(want.Sessions, func(v api.Session) bool { return v.ID == id })
		gotSession, ok := s.Session(id)
		mustAnswer(t, "Session", gotSession, ok, wantSession, there)
		wantCode, there := found(want.Codes, func(v api.Code) bool { return v.ID == id })
		gotCode, ok := s.Code(id)
		mustAnswer(t, "Code", gotCode, ok, wantCode, there)
		wantToken, there := found(want.Tokens, func(v api.Token) bool { return v.ID == id })
		gotToken, ok := s.Token(id)
		mustAnswer(t, "Token", gotToken, ok, wantToken, there)
		wantRefresh, there := found(want.Refreshes, func(v api.Refresh) bool { return v.ID == id })
		gotRefresh, ok := s.Refresh(id)
		mustAnswer(t, "Refresh", gotRefresh, ok, wantRefresh, there)
	}
}

// mustFindConsents asks for every user of a State with every client, and for some that are not there.
func mustFindConsents(t *testing.T, s *store.Store, want api.State) {
	t.Helper()
	users, clients := []string{"", "nobody"}, []string{"", "nothing"}
	for _, c := range want.Consents {
		users, clients = append(users, c.User, c.Client), append(clients, c.Client, c.User)
	}
	for _, user := range users {
		var list []api.Consent
		for _, client := range clients {
			wantConsent, there := found(want.Consents, func(c api.Consent) bool { return c.User == user && c.Client == client })
			got, ok := s.Consent(user, client)
			mustAnswer(t, "Consent", got, ok, wantConsent, there)
		}
		for _, c := range want.Consents { // they rise by client there already
			if c.User == user {
				list = append(list, c)
			}
		}
		if got := s.Consents(user); len(got) != len(list) || len(list) > 0 && !reflect.DeepEqual(got, list) {
			t.Fatalf("P15.4: Consents(%q) = %+v, want %+v", user, got, list)
		}
	}
}

func must[V any](v V, ok bool) V {
	if !ok {
		panic("a test asks for what is not there")
	}
	return v
}
