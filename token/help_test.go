package token_test

import (
	"bytes"
	"crypto/pbkdf2"
	"crypto/sha256"
	"encoding/base64"
	"net/url"
	"reflect"
	"slices"
	"strings"
	"testing"

	"usher/api"
	"usher/disk"
	"usher/pkce"
	"usher/record"
	"usher/registry"
	"usher/store"
	"usher/token"
	"usher/wal"
)

const (
	plenty     = 1 << 20 // room for all that a test writes
	address    = "https://w.example/cb"
	appAddress = "com.example.app:/cb?k=1"
)

var verifier = strings.Repeat("v", 43)

// passwords are those of the clients of every test. One is empty, one has bytes that a form must escape.
var passwords = map[string]string{"web": "pw", "svc": "s3cret", "mute": "", "a:b%+&=": "p: %&+=é\x00\xff."}

func draw(b byte) string { return strings.Repeat(string([]byte{b}), 32) }

// id is the identifier of 32 times that byte.
func id(b byte) string { return idOf(draw(b)) }

func idOf(draw string) string { return base64.RawURLEncoding.EncodeToString([]byte(draw)) }

// digest is what is kept of a password, by the library's own sums.
func digest(pass, salt string, rounds int) string {
	d, err := pbkdf2.Key(sha256.New, pass, []byte(salt), rounds, 32)
	if err != nil {
		panic("a test seals what cannot be sealed")
	}
	return string(d)
}

func challengeOf(verifier string) string {
	sum := sha256.Sum256([]byte(verifier))
	return base64.RawURLEncoding.EncodeToString(sum[:])
}

func sealedClient(name string, rounds int, scopes ...string) api.Client {
	return api.Client{
		ID: name, Secret: api.Secret{Salt: "salt of " + name, Digest: digest(passwords[name], "salt of "+name, rounds)},
		Redirects: []string{address}, Scopes: scopes,
	}
}

func configOf(rounds int) api.Config {
	return api.Config{
		CodeLife: 10, TokenLife: 100, SessionLife: 1000, RefreshLife: 1000, DiskBytes: 10000, HeadMax: 4096, BodyMax: 4096, Rounds: rounds,
		Clients: []api.Client{
			{ID: "app", Public: true, Redirects: []string{appAddress}, Scopes: []string{"offline_access", "read", "write"}},
			sealedClient("web", rounds, "offline_access", "read", "write"),
			sealedClient("svc", rounds, "read"),
			sealedClient("mute", rounds, "read"),
			sealedClient("a:b%+&=", rounds, "read"),
			{ID: "spa", Public: true, Redirects: []string{appAddress}, Scopes: []string{"read"}},
		},
	}
}

func config() api.Config { return configOf(1) }

// basicOf is a Basic field, by the library's own codes.
func basicOf(name, pass string) string {
	return "Basic " + base64.StdEncoding.EncodeToString([]byte(url.QueryEscape(name)+":"+url.QueryEscape(pass)))
}

// basic is the field of one of the clients, with its password.
func basic(name string) string { return basicOf(name, passwords[name]) }

// pairs are names and values by turns.
func pairs(texts ...string) []api.Pair {
	var list []api.Pair
	for i := 0; i < len(texts); i += 2 {
		list = append(list, api.Pair{Name: texts[i], Value: texts[i+1]})
	}
	return list
}

// asking is the form that asks for a token for the code of that byte.
func asking(code byte) []api.Pair {
	return pairs("grant_type", "authorization_code", "code", id(code), "redirect_uri", address, "code_verifier", verifier)
}

// with is params with these values for that name, in the place of all that it had: none, if there are no values.
func with(params []api.Pair, name string, values ...string) []api.Pair {
	var list []api.Pair
	put := func() {
		for _, value := range values {
			list = append(list, api.Pair{Name: name, Value: value})
		}
		values = nil
	}
	for _, p := range params {
		if p.Name == name {
			put()
		} else {
			list = append(list, p)
		}
	}
	put()
	return list
}

// and is params with more behind them.
func and(params []api.Pair, texts ...string) []api.Pair {
	return append(slices.Clone(params), pairs(texts...)...)
}

// A call is a call of a Till.
type call struct {
	till   int
	name   string
	now    int
	auth   string
	params []api.Pair
	id     string
}

func caller(auth string, params []api.Pair) call {
	return call{name: "Caller", auth: auth, params: params}
}

func redeem(now int, auth string, params []api.Pair) call {
	return call{name: "Token", now: now, auth: auth, params: params}
}

func introspect(now int, auth string, params []api.Pair) call {
	return call{name: "Introspect", now: now, auth: auth, params: params}
}

func revoke(now int, auth string, params []api.Pair) call {
	return call{name: "Revoke", now: now, auth: auth, params: params}
}

func active(now int, id string) call { return call{name: "Active", now: now, id: id} }

// at is the same call of another Till.
func (c call) at(till int) call {
	c.till = till
	return c
}

// An answer is what a call of any name has answered.
type answer struct {
	client   string
	hasShown bool
	reason   string
	outcome  api.Outcome
	isActive bool
	err      error
}

func failure(err error) answer { return answer{err: err} }

// refused is an outcome by the name of an error.
func refused(reason string) answer {
	o := api.Outcome{Status: 400, Error: reason, Members: []api.Member{text("error", reason)}}
	if reason == "invalid_client" {
		o.Status, o.Challenge = 401, true
	}
	return answer{outcome: o}
}

func text(name, value string) api.Member {
	return api.Member{Name: name, Kind: api.MemText, Text: value}
}
func number(name string, value int) api.Member {
	return api.Member{Name: name, Kind: api.MemNum, Num: value}
}
func flag(name string, value bool) api.Member {
	return api.Member{Name: name, Kind: api.MemFlag, Flag: value}
}

func done(members ...api.Member) answer {
	return answer{outcome: api.Outcome{Status: 200, Members: members}}
}

// given is a token for a code, with a TokenLife of 100.
func given(id, scope string) answer {
	return done(text("access_token", id), text("token_type", "Bearer"), number("expires_in", 100), text("scope", scope))
}

// givenBoth is a token and a refresh token for a code, with a TokenLife of 100.
func givenBoth(id, next, scope string) answer {
	return done(text("access_token", id), text("token_type", "Bearer"), number("expires_in", 100), text("refresh_token", next), text("scope", scope))
}

var inactive = done(flag("active", false))

// told is what an introspection says about a token that counts, with a TokenLife of 100.
func told(client, user, scope string, at int) answer {
	return done(flag("active", true), text("scope", scope), text("client_id", client), text("username", user), text("token_type", "Bearer"), number("exp", at+100), number("iat", at))
}

func plain(a answer) answer {
	a.outcome.Members = append([]api.Member(nil), a.outcome.Members...)
	return a
}

// isSame takes lists without elements for one another, as nothing hangs on which they are.
func isSame(a, b answer) bool { return reflect.DeepEqual(plain(a), plain(b)) }

// isSameState takes lists without elements for one another.
func isSameState(a, b api.State) bool {
	clean := func(s api.State) api.State {
		return api.State{
			Sessions: append([]api.Session(nil), s.Sessions...), Consents: append([]api.Consent(nil), s.Consents...), Codes: append([]api.Code(nil), s.Codes...),
			Tokens: append([]api.Token(nil), s.Tokens...), Refreshes: append([]api.Refresh(nil), s.Refreshes...),
		}
	}
	return reflect.DeepEqual(clean(a), clean(b))
}

// A bench is some Tills over one store and one source, with the model of them beside them.
type bench struct {
	t      *testing.T
	config api.Config
	room   int
	disk   *disk.Disk
	store  *store.Store
	source *pkce.Source
	draws  []string // that wait
	tills  []*token.Till
	isDead bool // the store was told ErrDead
	counts bool // no arm of the test's own waits: the operations of the disk can be counted
}

func newBench(t *testing.T, c api.Config, tills int) *bench {
	t.Helper()
	return benchOn(t, c, tills, nil, plenty)
}

// benchOn is a bench over a disk on which something lies.
func benchOn(t *testing.T, c api.Config, tills int, data []byte, room int) *bench {
	t.Helper()
	if err := registry.Check(c); err != nil {
		t.Fatalf("a test takes for a configuration what is none: %v", err)
	}
	b := &bench{t: t, config: c, room: room, disk: disk.Open(data, room), source: pkce.NewSource(), tills: make([]*token.Till, tills), counts: true}
	if !b.boot() {
		t.Fatal("a test's disk is dead")
	}
	return b
}

// boot opens the store anew, with new Tills over it; false, if an arm kills that.
func (b *bench) boot() bool {
	b.t.Helper()
	b.disk.Revive()
	s, err := store.Open(b.disk)
	if err == api.ErrDead {
		return false
	}
	if err != nil {
		b.t.Fatalf("layer 17: what the Tills have written cannot be played: %v", err)
	}
	b.store, b.isDead = s, false
	for i := range b.tills {
		b.tills[i] = token.New(b.config, b.store, b.source)
		if b.tills[i] == nil {
			b.t.Fatal("layer 17: New = nil")
		}
	}
	return true
}

// push lets draws of these bytes wait.
func (b *bench) push(draws ...byte) {
	b.t.Helper()
	for _, v := range draws {
		if err := b.source.Push(draw(v)); err != nil {
			b.t.Fatalf("a test's draw is refused: %v", err)
		}
		b.draws = append(b.draws, draw(v))
	}
}

// commit lets somebody else write into the store.
func (b *bench) commit(tx ...api.Record) {
	b.t.Helper()
	if err := b.store.Commit(tx); err != nil {
		b.t.Fatalf("a test's transaction is refused: %v", err)
	}
}

// code lets somebody else give out a code of ann at the time 5.
func (b *bench) code(drawn byte, client string, scopes ...string) {
	b.t.Helper()
	b.commit(codeRecord(id(drawn), client, 5, scopes...))
}

// family lets somebody else give out a code at 5, and turn it into a token and a refresh token at 6.
func (b *bench) family(code, token, refresh byte, client string, scopes ...string) {
	b.t.Helper()
	b.code(code, client, scopes...)
	b.commit(redeemedRecord(id(code)), tokenRecord(id(token), id(code), client, 6, scopes...), refreshRecord(id(refresh), id(code), client, 6, scopes...))
}

func do(till *token.Till, c call) (a answer) {
	switch c.name {
	case "Caller":
		a.client, a.hasShown, a.reason = till.Caller(c.auth, c.params)
	case "Token":
		a.outcome, a.err = till.Token(c.now, c.auth, c.params)
	case "Introspect":
		a.outcome, a.err = till.Introspect(c.now, c.auth, c.params)
	case "Revoke":
		a.outcome, a.err = till.Revoke(c.now, c.auth, c.params)
	case "Active":
		a.isActive = till.Active(c.now, c.id)
	default:
		panic("a test calls what no Till has")
	}
	return a
}

// play makes a call, and fails unless it answers what the model says, has written just the transaction that the model says, and has used up just as many draws.
func (b *bench) play(c call) answer {
	b.t.Helper()
	want, used, tx := b.expect(c)
	lies, wasDead := look(b.disk), b.disk.Dead() || b.isDead
	behind, operations := lies, 0
	if tx != nil && !wasDead {
		behind, operations = append(slices.Clone(lies), frame(tx)...), 2
		if len(behind) > b.room {
			want, behind, operations = failure(api.ErrFull), lies, 1
		}
	}
	var got answer
	b.count(operations, func() { got = do(b.tills[c.till], c) })
	died := tx != nil && !wasDead && b.disk.Dead()
	if died {
		behind = look(b.disk)
	}
	if tx != nil && (died || wasDead) {
		want, b.isDead = failure(api.ErrDead), true
	}
	b.draws = b.draws[used:]
	switch lie := look(b.disk); {
	case !isSame(got, want):
		b.t.Fatalf("layer 17: %+v\nanswers %+v\nwant    %+v", c, got, want)
	case !bytes.Equal(lie, behind):
		b.t.Fatalf("layer 17: %+v leaves %q on the disk behind %q, want %+v", c, lie, lies, tx)
	case b.source.Left() != len(b.draws):
		b.t.Fatalf("layer 17: %+v leaves %d draws, want %d", c, b.source.Left(), len(b.draws))
	}
	return got
}

// count fails unless do takes just so many operations of the disk: an arm waits for the one behind them.
func (b *bench) count(operations int, do func()) {
	b.t.Helper()
	if !b.counts {
		do()
		return
	}
	b.disk.Arm(operations, plenty)
	do()
	if b.disk.Dead() {
		b.t.Fatalf("P17.3: more than %d operations of the disk", operations)
	}
	if b.disk.Sync() != api.ErrDead {
		b.t.Fatalf("P17.3: less than %d operations of the disk", operations)
	}
	b.disk.Revive()
}

// must plays a call, and fails unless it answers that: what stands in the test itself, not in the model.
func (b *bench) must(want answer, c call) {
	b.t.Helper()
	if got := b.play(c); !isSame(got, want) {
		b.t.Fatalf("layer 17: %+v\nanswers %+v\nwant    %+v", c, got, want)
	}
}

func look(d *disk.Disk) []byte {
	data, _ := d.Look()
	return data
}

// frame is a transaction on the disk.
func frame(tx []api.Record) []byte {
	payload, err := record.Pack(tx)
	if err != nil {
		panic("a test writes a transaction that may not be")
	}
	f, err := wal.Frame(payload)
	if err != nil {
		panic("a test writes a payload that may not be")
	}
	return f
}

// mustHold fails unless just these transactions lie on the disk behind those bytes.
func (b *bench) mustHold(ahead []byte, txs ...[]api.Record) {
	b.t.Helper()
	want := slices.Clone(ahead)
	for _, tx := range txs {
		want = append(want, frame(tx)...)
	}
	if got := look(b.disk); !bytes.Equal(got, want) {
		b.t.Fatalf("layer 17: %q lies on the disk, want %q", got, want)
	}
}

func codeRecord(id, client string, at int, scopes ...string) api.Record {
	return api.Record{Kind: api.RecCode, ID: id, User: "ann", Client: client, Redirect: address, Challenge: challengeOf(verifier), Scopes: scopes, At: at}
}

func redeemedRecord(id string) api.Record { return api.Record{Kind: api.RecRedeemed, ID: id} }
func burnedRecord(id string) api.Record   { return api.Record{Kind: api.RecBurned, ID: id} }
func revokedRecord(id string) api.Record  { return api.Record{Kind: api.RecRevoked, ID: id} }

func tokenRecord(id, code, client string, at int, scopes ...string) api.Record {
	return api.Record{Kind: api.RecToken, ID: id, User: "ann", Client: client, Code: code, Scopes: scopes, At: at}
}

func refreshRecord(id, code, client string, at int, scopes ...string) api.Record {
	return api.Record{Kind: api.RecRefresh, ID: id, User: "ann", Client: client, Code: code, Scopes: scopes, At: at}
}

// dying plays a call that writes, with the power failing in each of its operations and each number of bytes kept: what was written is there whole behind it, or nothing of it is, and the caller is told ErrDead.
func dying(t *testing.T, ready func() *bench, c call, tx ...api.Record) {
	t.Helper()
	size := len(frame(tx))
	for operation := range 2 {
		for keep := -1; keep <= size+1; keep++ {
			b := ready()
			lies, before := look(b.disk), b.store.State()
			b.counts = false
			b.disk.Arm(operation, keep)
			b.must(failure(api.ErrDead), c)
			if !isSameState(before, b.store.State()) {
				t.Fatalf("layer 17: a call that died has changed what the store tells")
			}
			if !b.boot() {
				t.Fatal("layer 17: a second operation has died")
			}
			if keep >= size {
				b.mustHold(lies, tx)
			} else {
				b.mustHold(lies)
			}
		}
	}
}

// full plays a call that writes on disks that have less and less missing for it: it is refused, until there is just as much room as it takes.
func full(t *testing.T, ready func(room int) *bench, c call, want answer, tx ...api.Record) {
	t.Helper()
	size := len(frame(tx))
	for room := range size {
		b := ready(room)
		lies, before := look(b.disk), b.store.State()
		b.must(failure(api.ErrFull), c)
		b.mustHold(lies)
		if !isSameState(before, b.store.State()) {
			t.Fatalf("layer 17: with %d bytes of room %+v became %+v", room, before, b.store.State())
		}
	}
	b := ready(size)
	lies := look(b.disk)
	b.must(want, c)
	b.mustHold(lies, tx)
}
