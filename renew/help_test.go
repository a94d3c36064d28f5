package renew_test

import (
	"bytes"
	"crypto/pbkdf2"
	"crypto/sha256"
	"encoding/base64"
	"encoding/binary"
	"net/url"
	"reflect"
	"slices"
	"strings"
	"testing"

	"usher/api"
	"usher/disk"
	"usher/pkce"
	"usher/record"
	"usher/registry"
	"usher/renew"
	"usher/store"
	"usher/token"
	"usher/wal"
)

const (
	plenty  = 1 << 21 // room for all that a test writes
	address = "https://w.example/cb"
)

var (
	verifier = strings.Repeat("v", 43)
	all      = []string{"offline_access", "read", "write"}
)

func draw(b byte) string { return strings.Repeat(string([]byte{b}), 32) }

// counted is the draw of that number: no two of them are the same, and none is 32 times one byte.
func counted(n int) string {
	return strings.Repeat("c", 24) + string(binary.BigEndian.AppendUint64(nil, uint64(n)))
}

// id is the identifier of 32 times that byte.
func id(b byte) string { return idOf(draw(b)) }

func idOf(draw string) string { return base64.RawURLEncoding.EncodeToString([]byte(draw)) }

// secretOf is what is kept of a password, by the library's own sums.
func secretOf(pass string) api.Secret {
	digest, err := pbkdf2.Key(sha256.New, pass, []byte("salt"), 1, 32)
	if err != nil {
		panic("a test seals what cannot be sealed")
	}
	return api.Secret{Salt: "salt", Digest: string(digest)}
}

func challengeOf(verifier string) string {
	sum := sha256.Sum256([]byte(verifier))
	return base64.RawURLEncoding.EncodeToString(sum[:])
}

// config has the chapter's two clients, and behind them one more with a secret and one more that is public.
func config() api.Config {
	client := func(name string, isPublic bool, secret api.Secret) api.Client {
		return api.Client{ID: name, Public: isPublic, Secret: secret, Redirects: []string{address}, Scopes: slices.Clone(all)}
	}
	return api.Config{
		CodeLife: 10, TokenLife: 100, SessionLife: 1000, RefreshLife: 1000, DiskBytes: 10000, HeadMax: 4096, BodyMax: 4096, Rounds: 1,
		Clients: []api.Client{
			client("app", true, api.Secret{}), client("web", false, secretOf("pw")),
			client("svc", false, secretOf("s3cret")), client("spa", true, api.Secret{}),
		},
	}
}

// basicOf is a Basic field, by the library's own codes.
func basicOf(name, pass string) string {
	return "Basic " + base64.StdEncoding.EncodeToString([]byte(url.QueryEscape(name)+":"+url.QueryEscape(pass)))
}

// web and svc are the fields by which these two show who they are.
func web() string { return basicOf("web", "pw") }
func svc() string { return basicOf("svc", "s3cret") }

// pairs are names and values by turns.
func pairs(texts ...string) []api.Pair {
	var list []api.Pair
	for i := 0; i < len(texts); i += 2 {
		list = append(list, api.Pair{Name: texts[i], Value: texts[i+1]})
	}
	return list
}

// showing is the form that shows a refresh token, with more behind it.
func showing(refresh string, more ...string) []api.Pair {
	return append(pairs("grant_type", "refresh_token", "refresh_token", refresh), pairs(more...)...)
}

// with is params with these values for that name, in the place of all that it had: none, if there are no values.
func with(params []api.Pair, name string, values ...string) []api.Pair {
	var list []api.Pair
	put := func() {
		for _, value := range values {
			list = append(list, api.Pair{Name: name, Value: value})
		}
		values = nil
	}
	for _, p := range params {
		if p.Name == name {
			put()
		} else {
			list = append(list, p)
		}
	}
	put()
	return list
}

// and is params with more behind them.
func and(params []api.Pair, texts ...string) []api.Pair {
	return append(slices.Clone(params), pairs(texts...)...)
}

// A call is a call of a Desk, or of the Till beside it.
type call struct {
	desk   int
	name   string
	now    int
	auth   string
	params []api.Pair
	id     string
}

func renewing(now int, auth string, params []api.Pair) call {
	return call{name: "Renew", now: now, auth: auth, params: params}
}

func living(now int, id string) call { return call{name: "Live", now: now, id: id} }

func redeeming(now int, auth string, code string) call {
	return call{name: "Token", now: now, auth: auth, params: pairs("grant_type", "authorization_code", "code", code, "redirect_uri", address, "code_verifier", verifier)}
}

func revoking(now int, auth string, id string) call {
	return call{name: "Revoke", now: now, auth: auth, params: pairs("token", id)}
}

// at is the same call of another Desk or Till.
func (c call) at(desk int) call {
	c.desk = desk
	return c
}

// An answer is what a call of any name has answered.
type answer struct {
	outcome api.Outcome
	holds   bool
	err     error
}

func failure(err error) answer { return answer{err: err} }

// refused is an outcome by the name of an error.
func refused(reason string) answer {
	o := api.Outcome{Status: 400, Error: reason, Members: []api.Member{text("error", reason)}}
	if reason == "invalid_client" {
		o.Status, o.Challenge = 401, true
	}
	return answer{outcome: o}
}

func text(name, value string) api.Member {
	return api.Member{Name: name, Kind: api.MemText, Text: value}
}

// givenFor is a token and a refresh token.
func givenFor(life int, id, next, scope string) answer {
	return answer{outcome: api.Outcome{Status: 200, Members: []api.Member{
		text("access_token", id), text("token_type", "Bearer"), {Name: "expires_in", Kind: api.MemNum, Num: life}, text("refresh_token", next), text("scope", scope),
	}}}
}

// given is a token and a refresh token, with a TokenLife of 100.
func given(id, next, scope string) answer { return givenFor(100, id, next, scope) }

func plain(a answer) answer {
	a.outcome.Members = append([]api.Member(nil), a.outcome.Members...)
	return a
}

// isSame takes lists without elements for one another, as nothing hangs on which they are.
func isSame(a, b answer) bool { return reflect.DeepEqual(plain(a), plain(b)) }

// isSameState takes lists without elements for one another.
func isSameState(a, b api.State) bool {
	clean := func(s api.State) api.State {
		return api.State{
			Sessions: append([]api.Session(nil), s.Sessions...), Consents: append([]api.Consent(nil), s.Consents...), Codes: append([]api.Code(nil), s.Codes...),
			Tokens: append([]api.Token(nil), s.Tokens...), Refreshes: append([]api.Refresh(nil), s.Refreshes...),
		}
	}
	return reflect.DeepEqual(clean(a), clean(b))
}

// A bench is some Desks, each with a Till, over one store and one source, with the model of the Desks beside them.
type bench struct {
	t      *testing.T
	config api.Config
	room   int
	disk   *disk.Disk
	store  *store.Store
	source *pkce.Source
	draws  []string // that wait
	tills  []*token.Till
	desks  []*renew.Desk
	isDead bool // the store was told ErrDead
	counts bool // no arm of the test's own waits: the operations of the disk can be counted
}

func newBench(t *testing.T, c api.Config, desks int) *bench {
	t.Helper()
	return benchOn(t, c, desks, nil, plenty)
}

// benchOn is a bench over a disk on which something lies.
func benchOn(t *testing.T, c api.Config, desks int, data []byte, room int) *bench {
	t.Helper()
	if err := registry.Check(c); err != nil {
		t.Fatalf("a test takes for a configuration what is none: %v", err)
	}
	b := &bench{
		t: t, config: c, room: room, disk: disk.Open(data, room), source: pkce.NewSource(),
		tills: make([]*token.Till, desks), desks: make([]*renew.Desk, desks), counts: true,
	}
	if !b.boot() {
		t.Fatal("a test's disk is dead")
	}
	return b
}

// boot opens the store anew, with new Tills and Desks over it; false, if an arm kills that.
func (b *bench) boot() bool {
	b.t.Helper()
	b.disk.Revive()
	s, err := store.Open(b.disk)
	if err == api.ErrDead {
		return false
	}
	if err != nil {
		b.t.Fatalf("layer 18: what the Desks have written cannot be played: %v", err)
	}
	b.store, b.isDead = s, false
	for i := range b.desks {
		b.tills[i] = token.New(b.config, b.store, b.source)
		b.desks[i] = renew.New(b.config, b.store, b.source, b.tills[i])
		if b.desks[i] == nil {
			b.t.Fatal("layer 18: New = nil")
		}
	}
	return true
}

// push lets draws of these bytes wait.
func (b *bench) push(draws ...byte) {
	b.t.Helper()
	for _, v := range draws {
		b.pushDraw(draw(v))
	}
}

func (b *bench) pushDraw(draw string) {
	b.t.Helper()
	if err := b.source.Push(draw); err != nil {
		b.t.Fatalf("a test's draw is refused: %v", err)
	}
	b.draws = append(b.draws, draw)
}

// commit lets somebody else write into the store.
func (b *bench) commit(tx ...api.Record) {
	b.t.Helper()
	if err := b.store.Commit(tx); err != nil {
		b.t.Fatalf("a test's transaction is refused: %v", err)
	}
}

// family lets somebody else give out a code, turn it into a token and a refresh token, all at one time.
func (b *bench) family(code, token, refresh byte, client string, at int, scopes ...string) {
	b.t.Helper()
	b.commit(codeRecord(id(code), client, at, scopes...), redeemedRecord(id(code)),
		tokenRecord(id(token), id(code), client, at, scopes...), refreshRecord(id(refresh), id(code), client, at, scopes...))
}

func (b *bench) do(c call) (a answer) {
	desk, till := b.desks[c.desk], b.tills[c.desk]
	switch c.name {
	case "Renew":
		a.outcome, a.err = desk.Renew(c.now, c.auth, c.params)
	case "Live":
		a.holds = desk.Live(c.now, c.id)
	case "Token":
		a.outcome, a.err = till.Token(c.now, c.auth, c.params)
	case "Revoke":
		a.outcome, a.err = till.Revoke(c.now, c.auth, c.params)
	default:
		panic("a test calls what nobody has")
	}
	return a
}

// play makes a call of a Desk, and fails unless it answers what the model says, has written just the transaction that the model says, and has used up just as many draws.
func (b *bench) play(c call) answer {
	b.t.Helper()
	want, used, tx := b.expect(c)
	lies, wasDead := look(b.disk), b.disk.Dead() || b.isDead
	behind, operations := lies, 0
	if tx != nil && !wasDead {
		behind, operations = append(slices.Clone(lies), frame(tx)...), 2
		if len(behind) > b.room {
			want, behind, operations = failure(api.ErrFull), lies, 1
		}
	}
	var got answer
	b.count(operations, func() { got = b.do(c) })
	died := tx != nil && !wasDead && b.disk.Dead()
	if died {
		behind = look(b.disk)
	}
	if tx != nil && (died || wasDead) {
		want, b.isDead = failure(api.ErrDead), true
	}
	b.draws = b.draws[used:]
	switch lie := look(b.disk); {
	case !isSame(got, want):
		b.t.Fatalf("layer 18: %+v\nanswers %+v\nwant    %+v", c, got, want)
	case !bytes.Equal(lie, behind):
		b.t.Fatalf("layer 18: %+v leaves %q on the disk behind %q, want %+v", c, lie, lies, tx)
	case b.source.Left() != len(b.draws):
		b.t.Fatalf("layer 18: %+v leaves %d draws, want %d", c, b.source.Left(), len(b.draws))
	}
	return got
}

// count fails unless do takes just so many operations of the disk: an arm waits for the one behind them.
func (b *bench) count(operations int, do func()) {
	b.t.Helper()
	if !b.counts {
		do()
		return
	}
	b.disk.Arm(operations, plenty)
	do()
	if b.disk.Dead() {
		b.t.Fatalf("P18.1: more than %d operations of the disk", operations)
	}
	if b.disk.Sync() != api.ErrDead {
		b.t.Fatalf("P18.1: less than %d operations of the disk", operations)
	}
	b.disk.Revive()
}

// must plays a call, and fails unless it answers that: what stands in the test itself, not in the model.
func (b *bench) must(want answer, c call) {
	b.t.Helper()
	if got := b.play(c); !isSame(got, want) {
		b.t.Fatalf("layer 18: %+v\nanswers %+v\nwant    %+v", c, got, want)
	}
}

// mustLive fails unless the refresh token of that byte lives at that time, or unless it does not.
func (b *bench) mustLive(now int, refresh byte, does bool) {
	b.t.Helper()
	b.must(answer{holds: does}, living(now, id(refresh)))
}

// mustCount fails unless the token of that byte counts at that time, or unless it does not.
func (b *bench) mustCount(now int, token byte, does bool) {
	b.t.Helper()
	for i, till := range b.tills {
		if till.Active(now, id(token)) != does {
			b.t.Fatalf("layer 18: at the Till %d and the time %d, does the token %d count? want %v", i, now, token, does)
		}
	}
}

func look(d *disk.Disk) []byte {
	data, _ := d.Look()
	return data
}

// frame is a transaction on the disk.
func frame(tx []api.Record) []byte {
	payload, err := record.Pack(tx)
	if err != nil {
		panic("a test writes a transaction that may not be")
	}
	f, err := wal.Frame(payload)
	if err != nil {
		panic("a test writes a payload that may not be")
	}
	return f
}

// mustHold fails unless just these transactions lie on the disk behind those bytes.
func (b *bench) mustHold(ahead []byte, txs ...[]api.Record) {
	b.t.Helper()
	want := slices.Clone(ahead)
	for _, tx := range txs {
		want = append(want, frame(tx)...)
	}
	if got := look(b.disk); !bytes.Equal(got, want) {
		b.t.Fatalf("layer 18: %q lies on the disk, want %q", got, want)
	}
}

func codeRecord(id, client string, at int, scopes ...string) api.Record {
	return api.Record{Kind: api.RecCode, ID: id, User: "ann", Client: client, Redirect: address, Challenge: challengeOf(verifier), Scopes: scopes, At: at}
}

func redeemedRecord(id string) api.Record { return api.Record{Kind: api.RecRedeemed, ID: id} }
func burnedRecord(id string) api.Record   { return api.Record{Kind: api.RecBurned, ID: id} }
func turnedRecord(id string) api.Record   { return api.Record{Kind: api.RecTurned, ID: id} }

func tokenRecord(id, code, client string, at int, scopes ...string) api.Record {
	return api.Record{Kind: api.RecToken, ID: id, User: "ann", Client: client, Code: code, Scopes: scopes, At: at}
}

func refreshRecord(id, code, client string, at int, scopes ...string) api.Record {
	return api.Record{Kind: api.RecRefresh, ID: id, User: "ann", Client: client, Code: code, Scopes: scopes, At: at}
}

// withdrawal is how ann takes back what she has allowed a client.
func withdrawal(client string) []api.Record {
	return []api.Record{{Kind: api.RecConsent, User: "ann", Client: client, Scopes: []string{"read"}, At: 5}, {Kind: api.RecWithdrawn, User: "ann", Client: client}}
}
