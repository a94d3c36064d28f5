package grant_test

import (
	"bytes"
	"crypto/pbkdf2"
	"crypto/sha256"
	"encoding/base64"
	"reflect"
	"slices"
	"strings"
	"testing"

	"usher/api"
	"usher/disk"
	"usher/grant"
	"usher/pkce"
	"usher/record"
	"usher/registry"
	"usher/store"
	"usher/wal"
)

const (
	plenty     = 1 << 20 // room for all that a test writes
	address    = "https://a.example/cb"
	webAddress = "https://w.example/cb?k=1"
)

var challenge = strings.Repeat("x", 43)

// passwords are those of the users of every test.
var passwords = map[string]string{"ann": "pw", "bob": "wp"}

func draw(b byte) string { return strings.Repeat(string([]byte{b}), 32) }

// id is the identifier of 32 times that byte.
func id(b byte) string { return idOf(draw(b)) }

func idOf(draw string) string { return base64.RawURLEncoding.EncodeToString([]byte(draw)) }

// sealed is a secret by the library's own sums.
func sealed(pass, salt string, rounds int) api.Secret {
	digest, err := pbkdf2.Key(sha256.New, pass, []byte(salt), rounds, 32)
	if err != nil {
		panic("a test seals what cannot be sealed")
	}
	return api.Secret{Salt: salt, Digest: string(digest)}
}

func config() api.Config {
	return api.Config{
		CodeLife: 10, TokenLife: 10, SessionLife: 100, RefreshLife: 10, DiskBytes: 10000, HeadMax: 4096, BodyMax: 4096, Rounds: 1,
		Clients: []api.Client{
			{ID: "app", Public: true, Redirects: []string{address, address + "?", "com.example.app:/cb?k?"}, Scopes: []string{"read", "write"}},
			{ID: "web", Secret: sealed("s3cret", "s", 1), Redirects: []string{webAddress}, Scopes: []string{"admin", "grant:read", "read"}},
		},
		Users: []api.User{{Name: "ann", Secret: sealed("pw", "salt", 1)}, {Name: "bob", Secret: sealed("wp", "pepper", 1)}},
	}
}

// braked is config with a brake.
func braked(fails, lockTime int) api.Config {
	c := config()
	c.Fails, c.LockTime = fails, lockTime
	return c
}

// pairs are names and values by turns.
func pairs(texts ...string) []api.Pair {
	var list []api.Pair
	for i := 0; i < len(texts); i += 2 {
		list = append(list, api.Pair{Name: texts[i], Value: texts[i+1]})
	}
	return list
}

// asking is the parameters of a well-formed request.
func asking() []api.Pair {
	return pairs("client_id", "app", "redirect_uri", address, "response_type", "code", "scope", "write read", "state", "s1", "code_challenge", challenge, "code_challenge_method", "S256")
}

// question is the question of asking.
func question() []api.Pair { return with(asking(), "scope", "read write") }

// with is params with these values for that name, in the place of all that it had: none, if there are no values.
func with(params []api.Pair, name string, values ...string) []api.Pair {
	var list []api.Pair
	put := func() {
		for _, value := range values {
			list = append(list, api.Pair{Name: name, Value: value})
		}
		values = nil
	}
	for _, p := range params {
		if p.Name == name {
			put()
		} else {
			list = append(list, p)
		}
	}
	put()
	return list
}

// and is params with more behind them.
func and(params []api.Pair, texts ...string) []api.Pair {
	return append(slices.Clone(params), pairs(texts...)...)
}

// formed is a consent form with its ticket: a question, and what the user has decided.
func formed(sid string, question []api.Pair, texts ...string) []api.Pair {
	return and(and(question, "ticket", ticketOf(sid, question)), texts...)
}

// withdrawal is the form that takes back what a client was allowed.
func withdrawal(sid, client string) []api.Pair {
	return formed(sid, pairs("client_id", client))
}

// A call is a call of a Desk.
type call struct {
	desk            int
	name            string
	now             int
	user, pass, sid string
	params          []api.Pair
}

func login(now int, user, pass string) call {
	return call{name: "Login", now: now, user: user, pass: pass}
}
func wait(now int, user string) call  { return call{name: "Wait", now: now, user: user} }
func logout(now int, sid string) call { return call{name: "Logout", now: now, sid: sid} }
func who(now int, sid string) call    { return call{name: "Who", now: now, sid: sid} }
func given(now int, sid string) call  { return call{name: "Given", now: now, sid: sid} }

func ask(now int, sid string, params []api.Pair) call {
	return call{name: "Ask", now: now, sid: sid, params: params}
}

func answering(now int, sid string, params []api.Pair) call {
	return call{name: "Answer", now: now, sid: sid, params: params}
}

func withdraw(now int, sid string, params []api.Pair) call {
	return call{name: "Withdraw", now: now, sid: sid, params: params}
}

// at is the same call of another Desk.
func (c call) at(desk int) call {
	c.desk = desk
	return c
}

// An answer is what a call of any name has answered: an identifier or a user is the text.
type answer struct {
	text     string
	wait     int
	ok       bool
	verdict  api.Verdict
	consents []api.Consent
	err      error
}

func refusal(err error) answer { return answer{err: err} }

func page(reason string) answer {
	return answer{verdict: api.Verdict{Kind: api.VerPage, Error: reason}}
}

// back is an error that is sent back, to there.
func back(reason, to string) answer {
	return answer{verdict: api.Verdict{Kind: api.VerRedirect, Error: reason, To: to}}
}

// code is a code that is sent back, to there.
func code(id, to string) answer {
	return answer{verdict: api.Verdict{Kind: api.VerRedirect, Code: id, To: to}}
}

// codeBack is a code that is sent back for asking.
func codeBack(id string) answer { return code(id, address+"?code="+id+"&state=s1") }

func toLogin(question []api.Pair) answer {
	return answer{verdict: api.Verdict{Kind: api.VerLogin, Params: question}}
}

// toConsent is the question to that user, of that session.
func toConsent(sid, user string, question []api.Pair, scopes ...string) answer {
	return answer{verdict: api.Verdict{
		Kind: api.VerConsent, Client: question[0].Value, User: user, Scopes: scopes, Params: question, Ticket: ticketOf(sid, question),
	}}
}

var (
	forged = answer{verdict: api.Verdict{Kind: api.VerForged}}
	done   = answer{verdict: api.Verdict{Kind: api.VerDone}}
	nobody = answer{}
)

func plain(a answer) answer {
	a.verdict.Scopes = append([]string(nil), a.verdict.Scopes...)
	a.verdict.Params = append([]api.Pair(nil), a.verdict.Params...)
	a.consents = append([]api.Consent(nil), a.consents...)
	return a
}

// isSame takes lists without elements for one another, as nothing hangs on which they are.
func isSame(a, b answer) bool { return reflect.DeepEqual(plain(a), plain(b)) }

// A bench is some Desks over one store and one source, with the model of them beside them.
type bench struct {
	t         *testing.T
	config    api.Config
	passwords map[string]string // what the model takes for right
	room      int
	disk      *disk.Disk
	store     *store.Store
	source    *pkce.Source
	draws     []string // that wait
	desks     []*grant.Desk
	brakes    []map[string]guess // the model's, one for each Desk
	isDead    bool               // the store was told ErrDead
	counts    bool               // no arm of the test's own waits: the operations of the disk can be counted
}

func newBench(t *testing.T, c api.Config, desks int) *bench {
	t.Helper()
	return benchOn(t, c, desks, nil, plenty)
}

// benchOn is a bench over a disk on which something lies.
func benchOn(t *testing.T, c api.Config, desks int, data []byte, room int) *bench {
	t.Helper()
	if err := registry.Check(c); err != nil {
		t.Fatalf("a test takes for a configuration what is none: %v", err)
	}
	b := &bench{t: t, config: c, passwords: passwords, room: room, disk: disk.Open(data, room), source: pkce.NewSource(), desks: make([]*grant.Desk, desks), counts: true}
	if !b.boot() {
		t.Fatal("a test's disk is dead")
	}
	return b
}

// boot opens the store anew, with new Desks over it; false, if an arm kills that.
func (b *bench) boot() bool {
	b.t.Helper()
	b.disk.Revive()
	s, err := store.Open(b.disk)
	if err == api.ErrDead {
		return false
	}
	if err != nil {
		b.t.Fatalf("P16.13: what the Desks have written cannot be played: %v", err)
	}
	b.store, b.isDead = s, false
	b.brakes = nil
	for i := range b.desks {
		b.desks[i] = grant.New(b.config, b.store, b.source)
		if b.desks[i] == nil {
			b.t.Fatal("P16.1: New = nil")
		}
		b.brakes = append(b.brakes, map[string]guess{})
	}
	return true
}

// push lets draws wait.
func (b *bench) push(draws ...string) {
	b.t.Helper()
	for _, d := range draws {
		if err := b.source.Push(d); err != nil {
			b.t.Fatalf("a test's draw is refused: %v", err)
		}
		b.draws = append(b.draws, d)
	}
}

// commit lets somebody else write into the store.
func (b *bench) commit(tx ...api.Record) {
	b.t.Helper()
	if err := b.store.Commit(tx); err != nil {
		b.t.Fatalf("a test's transaction is refused: %v", err)
	}
}

// begin is a session of ann, from the time 5 on, by the draw of that byte.
func (b *bench) begin(drawn byte) string {
	b.t.Helper()
	return b.beginAs("ann", 5, drawn)
}

func (b *bench) beginAs(user string, now int, drawn byte) string {
	b.t.Helper()
	b.push(draw(drawn))
	b.must(answer{text: id(drawn)}, login(now, user, passwords[user]))
	return id(drawn)
}

// allow lets ann's session allow the client of a question these scopes, at the time 7, by the draw of that byte.
func (b *bench) allow(drawn byte, sid string, question []api.Pair, scopes ...string) {
	b.t.Helper()
	form := formed(sid, question, "decision", "allow")
	for _, scope := range scopes {
		form = and(form, "grant:"+scope, "yes")
	}
	b.push(draw(drawn))
	if got := b.play(answering(7, sid, form)); got.verdict.Code != id(drawn) {
		b.t.Fatalf("P16.9: %+v", got)
	}
}

func do(g *grant.Desk, c call) (a answer) {
	switch c.name {
	case "Login":
		a.text, a.err = g.Login(c.now, c.user, c.pass)
	case "Wait":
		a.wait = g.Wait(c.now, c.user)
	case "Logout":
		a.err = g.Logout(c.now, c.sid)
	case "Who":
		a.text, a.ok = g.Who(c.now, c.sid)
	case "Ask":
		a.verdict, a.err = g.Ask(c.now, c.sid, c.params)
	case "Answer":
		a.verdict, a.err = g.Answer(c.now, c.sid, c.params)
	case "Given":
		a.consents, a.ok = g.Given(c.now, c.sid)
	case "Withdraw":
		a.verdict, a.err = g.Withdraw(c.now, c.sid, c.params)
	default:
		panic("a test calls what no Desk has")
	}
	return a
}

// play makes a call, and fails unless it answers what the model says, has written just the transaction that the model says, and has used up just as many draws.
func (b *bench) play(c call) answer {
	b.t.Helper()
	want, used, tx := b.expect(c)
	lies, wasDead := look(b.disk), b.disk.Dead() || b.isDead
	behind, operations := lies, 0
	if tx != nil && !wasDead {
		behind, operations = append(slices.Clone(lies), frame(tx)...), 2
		if len(behind) > b.room {
			want, behind, operations = refusal(api.ErrFull), lies, 1
		}
	}
	var got answer
	b.count(operations, func() { got = do(b.desks[c.desk], c) })
	died := tx != nil && !wasDead && b.disk.Dead()
	if died {
		behind = look(b.disk)
	}
	if tx != nil && (died || wasDead) {
		want, b.isDead = refusal(api.ErrDead), true
	}
	b.draws = b.draws[used:]
	switch lie := look(b.disk); {
	case !isSame(got, want):
		b.t.Fatalf("layer 16: %+v\nanswers %+v\nwant    %+v", c, got, want)
	case !bytes.Equal(lie, behind):
		b.t.Fatalf("layer 16: %+v leaves %q on the disk behind %q, want %+v", c, lie, lies, tx)
	case b.source.Left() != len(b.draws):
		b.t.Fatalf("layer 16: %+v leaves %d draws, want %d", c, b.source.Left(), len(b.draws))
	}
	return got
}

// count fails unless do takes just so many operations of the disk: an arm waits for the one behind them.
func (b *bench) count(operations int, do func()) {
	b.t.Helper()
	if !b.counts {
		do()
		return
	}
	b.disk.Arm(operations, plenty)
	do()
	if b.disk.Dead() {
		b.t.Fatalf("P16.9: more than %d operations of the disk", operations)
	}
	if b.disk.Sync() != api.ErrDead {
		b.t.Fatalf("P16.9: less than %d operations of the disk", operations)
	}
	b.disk.Revive()
}

// must plays a call, and fails unless it answers that: what stands in the test itself, not in the model.
func (b *bench) must(want answer, c call) {
	b.t.Helper()
	if got := b.play(c); !isSame(got, want) {
		b.t.Fatalf("layer 16: %+v\nanswers %+v\nwant    %+v", c, got, want)
	}
}

func look(d *disk.Disk) []byte {
	data, _ := d.Look()
	return data
}

// frame is a transaction on the disk.
func frame(tx []api.Record) []byte {
	payload, err := record.Pack(tx)
	if err != nil {
		panic("a test writes a transaction that may not be")
	}
	f, err := wal.Frame(payload)
	if err != nil {
		panic("a test writes a payload that may not be")
	}
	return f
}

// mustHold fails unless just these transactions lie on the disk behind those bytes.
func (b *bench) mustHold(ahead []byte, txs ...[]api.Record) {
	b.t.Helper()
	want := slices.Clone(ahead)
	for _, tx := range txs {
		want = append(want, frame(tx)...)
	}
	if got := look(b.disk); !bytes.Equal(got, want) {
		b.t.Fatalf("P16.9: %q lies on the disk, want %q", got, want)
	}
}

func sessionRecord(id, user string, at int) api.Record {
	return api.Record{Kind: api.RecSession, ID: id, User: user, At: at}
}

func consentRecord(user, client string, at int, scopes ...string) api.Record {
	return api.Record{Kind: api.RecConsent, User: user, Client: client, Scopes: scopes, At: at}
}

func codeRecord(id, user, client string, at int, scopes ...string) api.Record {
	to := address
	if client == "web" {
		to = webAddress
	}
	return api.Record{Kind: api.RecCode, ID: id, User: user, Client: client, Redirect: to, Challenge: challenge, Scopes: scopes, At: at}
}
