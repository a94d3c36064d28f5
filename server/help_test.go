package server_test

import (
	"bytes"
	"crypto/hmac"
	"crypto/pbkdf2"
	"crypto/sha256"
	"encoding/base64"
	"encoding/binary"
	"net/url"
	"reflect"
	"slices"
	"strings"
	"testing"

	"usher/api"
	"usher/disk"
	"usher/pkce"
	"usher/record"
	"usher/registry"
	"usher/reply"
	"usher/server"
	"usher/store"
	"usher/wal"
)

const (
	plenty     = 1 << 20 // room for all that a test writes
	formType   = "application/x-www-form-urlencoded"
	address    = "https://a.example/cb"
	webAddress = "https://w.example/cb?x=1"
	oddAddress = "https://o.example/cb?a='&b=(1)"
	oddName    = `<o&"'>` // of a client and of a user
)

var (
	verifier  = strings.Repeat("v", 43)
	challenge = challengeOf(verifier)
)

// passwords are those of the users; webPass is that of the client web.
var passwords = map[string]string{"ann": "pw", "bob": "wp", oddName: `"'<&>%+ `}

const webPass = "s3 cret"

func draw(b byte) string { return strings.Repeat(string([]byte{b}), 32) }

// counted is the draw of that number: no two of them are the same, and none is 32 times one byte.
func counted(n int) string {
	return strings.Repeat("c", 24) + string(binary.BigEndian.AppendUint64(nil, uint64(n)))
}

// id is the identifier of 32 times that byte.
func id(b byte) string { return idOf(draw(b)) }

func idOf(draw string) string { return base64.RawURLEncoding.EncodeToString([]byte(draw)) }

// secretOf is what is kept of a password, by the library's own sums.
func secretOf(pass string) api.Secret {
	digest, err := pbkdf2.Key(sha256.New, pass, []byte("salt"), 1, 32)
	if err != nil {
		panic("a test seals what cannot be sealed")
	}
	return api.Secret{Salt: "salt", Digest: string(digest)}
}

func challengeOf(verifier string) string {
	sum := sha256.Sum256([]byte(verifier))
	return base64.RawURLEncoding.EncodeToString(sum[:])
}

// ticketOf is the ticket of a question, by the library's own sums.
func ticketOf(sid string, question []api.Pair) string {
	sum := hmac.New(sha256.New, []byte(sid))
	sum.Write([]byte(formOf(question)))
	return base64.RawURLEncoding.EncodeToString(sum.Sum(nil))
}

// config has a public client, one with a secret, and one whose names and address are made of what a page, a form or an object must write in another way; so the users.
func config() api.Config {
	return api.Config{
		CodeLife: 60, TokenLife: 3600, SessionLife: 1000, RefreshLife: 100000, DiskBytes: 100000, HeadMax: 8192, BodyMax: 4096, Rounds: 1,
		Clients: []api.Client{
			{ID: "app", Public: true, Redirects: []string{address, "com.example.app:/cb?k?"}, Scopes: []string{"offline_access", "read", "write"}},
			{ID: "web", Secret: secretOf(webPass), Redirects: []string{webAddress}, Scopes: []string{"offline_access", "read"}},
			{ID: oddName, Public: true, Redirects: []string{oddAddress}, Scopes: []string{"'&'", "<b>"}},
		},
		Users: []api.User{{Name: "ann", Secret: secretOf("pw")}, {Name: "bob", Secret: secretOf("wp")}, {Name: oddName, Secret: secretOf(passwords[oddName])}},
	}
}

// braked is config with a brake.
func braked(fails, lockTime int) api.Config {
	c := config()
	c.Fails, c.LockTime = fails, lockTime
	return c
}

// basicOf is a Basic field, by the library's own codes.
func basicOf(name, pass string) string {
	return "Basic " + base64.StdEncoding.EncodeToString([]byte(url.QueryEscape(name)+":"+url.QueryEscape(pass)))
}

// web is the field by which that client shows who it is.
func web() string { return basicOf("web", webPass) }

// pairs are names and values by turns.
func pairs(texts ...string) []api.Pair {
	var list []api.Pair
	for i := 0; i < len(texts); i += 2 {
		list = append(list, api.Pair{Name: texts[i], Value: texts[i+1]})
	}
	return list
}

// formOf is a form, by the library's own codes.
func formOf(params []api.Pair) string {
	var pieces []string
	for _, p := range params {
		pieces = append(pieces, url.QueryEscape(p.Name)+"="+url.QueryEscape(p.Value))
	}
	return strings.Join(pieces, "&")
}

// with is params with these values for that name, in the place of all that it had: none, if there are no values.
func with(params []api.Pair, name string, values ...string) []api.Pair {
	var list []api.Pair
	put := func() {
		for _, value := range values {
			list = append(list, api.Pair{Name: name, Value: value})
		}
		values = nil
	}
	for _, p := range params {
		if p.Name == name {
			put()
		} else {
			list = append(list, p)
		}
	}
	put()
	return list
}

// and is params with more behind them.
func and(params []api.Pair, texts ...string) []api.Pair {
	return append(slices.Clone(params), pairs(texts...)...)
}

// question is what the client app asks of a user, in the order of a consent form.
func question(scope string) []api.Pair {
	return pairs("client_id", "app", "redirect_uri", address, "response_type", "code", "scope", scope, "state", "s 1", "code_challenge", challenge, "code_challenge_method", "S256")
}

// oddQuestion is what the odd client asks; its state has all that must be written in another way.
func oddQuestion() []api.Pair {
	return with(with(with(with(question("'&' <b>"), "client_id", oddName), "redirect_uri", oddAddress), "state", `"><script>&amp;'`), "scope", "'&' <b>")
}

// request is a request without a body; fields are names and values by turns.
func request(method, target string, fields ...string) api.Request {
	return api.Request{Method: method, Target: target, Minor: 1, Fields: pairs(append([]string{"host", "usher.example"}, fields...)...)}
}

func getting(target string, fields ...string) api.Request { return request("GET", target, fields...) }

// sending is a POST of a body that is said to be a form.
func sending(target, body string, fields ...string) api.Request {
	q := request("POST", target, append([]string{"content-type", formType}, fields...)...)
	q.Body = body
	return q
}

// posting is a POST of a form.
func posting(target string, params []api.Pair, fields ...string) api.Request {
	return sending(target, formOf(params), fields...)
}

// by is the request with the cookie of that session.
func by(sid string, q api.Request) api.Request { return withField(q, "cookie", "sid="+sid) }

// as is the request of a client that shows who it is in a field.
func as(auth string, q api.Request) api.Request { return withField(q, "authorization", auth) }

func withField(q api.Request, name, value string) api.Request {
	q.Fields = and(q.Fields, name, value)
	return q
}

func login(user, pass string, more ...string) api.Request {
	return posting("/login", and(pairs("user", user, "pass", pass), more...))
}

func logout() api.Request { return sending("/logout", "") }

func authorize(params []api.Pair) api.Request { return getting("/authorize?" + formOf(params)) }

// deciding is the consent form for a question, as that session's page has it, with a decision and what else is sent behind it.
func deciding(sid string, question []api.Pair, decision string, more ...string) api.Request {
	return by(sid, posting("/consent", and(and(question, "ticket", ticketOf(sid, question), "decision", decision), more...)))
}

// withdrawing takes back what a client was allowed.
func withdrawing(sid, client string) api.Request {
	return by(sid, posting("/withdraw", pairs("client_id", client, "ticket", ticketOf(sid, pairs("client_id", client)))))
}

// redeeming turns a code of app, or with a secret of web, into a token.
func redeeming(code string, more ...string) api.Request {
	return posting("/token", and(pairs("grant_type", "authorization_code", "code", code, "redirect_uri", address, "code_verifier", verifier, "client_id", "app"), more...))
}

func renewing(refresh string, more ...string) api.Request {
	return posting("/token", and(pairs("grant_type", "refresh_token", "refresh_token", refresh, "client_id", "app"), more...))
}

func introspecting(token string) api.Request {
	return as(web(), posting("/introspect", pairs("token", token)))
}

func revoking(token string) api.Request {
	return posting("/revoke", pairs("token", token, "client_id", "app"))
}

// isSame takes lists without elements for one another, as nothing hangs on which they are.
func isSame(a, b api.Reply) bool { return reflect.DeepEqual(plain(a), plain(b)) }

func plain(r api.Reply) api.Reply {
	r.Fields = append([]api.Pair(nil), r.Fields...)
	return r
}

// isSameState takes lists without elements for one another.
func isSameState(a, b api.State) bool {
	clean := func(s api.State) api.State {
		return api.State{
			Sessions: append([]api.Session(nil), s.Sessions...), Consents: append([]api.Consent(nil), s.Consents...), Codes: append([]api.Code(nil), s.Codes...),
			Tokens: append([]api.Token(nil), s.Tokens...), Refreshes: append([]api.Refresh(nil), s.Refreshes...),
		}
	}
	return reflect.DeepEqual(clean(a), clean(b))
}

// A machine is a disk, the store on it, and the draws that wait.
type machine struct {
	disk   *disk.Disk
	store  *store.Store
	source *pkce.Source
}

func machineOn(data []byte, room int) machine {
	return machine{disk: disk.Open(data, room), source: pkce.NewSource()}
}

// boot revives the disk and opens the store anew; false, if an arm kills that.
func (m *machine) boot(t *testing.T) bool {
	t.Helper()
	m.disk.Revive()
	s, err := store.Open(m.disk)
	if err == api.ErrDead {
		return false
	}
	if err != nil {
		t.Fatalf("layer 19: what was written cannot be played: %v", err)
	}
	m.store = s
	return true
}

// A bench is a server over a machine of its own, and the model of it over another one, to which all is done that is done to the first.
type bench struct {
	t      *testing.T
	config api.Config
	machine
	server *server.Server
	model  *model
}

func newBench(t *testing.T, c api.Config) *bench {
	t.Helper()
	return benchOn(t, c, nil, plenty)
}

// benchOn is a bench over disks on which something lies.
func benchOn(t *testing.T, c api.Config, data []byte, room int) *bench {
	t.Helper()
	if err := registry.Check(c); err != nil {
		t.Fatalf("a test takes for a configuration what is none: %v", err)
	}
	b := &bench{t: t, config: c, machine: machineOn(data, room), model: &model{config: c, machine: machineOn(data, room)}}
	if !b.boot() {
		t.Fatal("a test's disk is dead")
	}
	return b
}

// boot opens both stores anew, with a new server and new desks over them; false, if an arm kills that.
func (b *bench) boot() bool {
	b.t.Helper()
	lives, modelLives := b.machine.boot(b.t), b.model.boot(b.t)
	if lives != modelLives {
		b.t.Fatal("layer 19: the model's disk lives and the server's does not, or the other way round")
	}
	if !lives {
		return false
	}
	b.server = server.New(b.config, b.store, b.source)
	if b.server == nil {
		b.t.Fatal("layer 19: New = nil")
	}
	b.model.begin()
	return true
}

// push lets draws of these bytes wait.
func (b *bench) push(draws ...byte) {
	b.t.Helper()
	for _, v := range draws {
		b.pushDraw(draw(v))
	}
}

func (b *bench) pushDraw(draw string) {
	b.t.Helper()
	if b.source.Push(draw) != nil || b.model.source.Push(draw) != nil {
		b.t.Fatal("a test's draw is refused")
	}
}

func (b *bench) arm(after, keep int) {
	b.disk.Arm(after, keep)
	b.model.disk.Arm(after, keep)
}

func (b *bench) crash(keep int) {
	b.disk.Crash(keep)
	b.model.disk.Crash(keep)
}

// commit lets somebody else write into the store.
func (b *bench) commit(tx ...api.Record) {
	b.t.Helper()
	if b.store.Commit(tx) != nil || b.model.store.Commit(tx) != nil {
		b.t.Fatal("a test's transaction is refused")
	}
}

// serve makes the call, and fails if it changes what it was handed.
func (b *bench) serve(now int, q api.Request) (api.Reply, error) {
	b.t.Helper()
	q.Fields = roomy(q.Fields, api.Pair{Name: "cookie", Value: "sid=spare"})
	before := whole(q.Fields)
	got, err := b.server.Serve(now, q)
	if !slices.Equal(whole(q.Fields), before) {
		b.t.Fatalf("P0.5: of the fields %q is left %q", before, whole(q.Fields))
	}
	return got, err
}

// play serves a request, and fails unless the answer is what the model says, can be written, and what lies on the disk and waits of the draws is what the model has left of its own.
func (b *bench) play(now int, q api.Request) (api.Reply, error) {
	b.t.Helper()
	want, wantErr := b.model.expect(now, q)
	got, err := b.serve(now, q)
	if err != wantErr || !isSame(got, want) {
		b.t.Fatalf("layer 19: at %d %+v\nanswers %+v, %v\nwant    %+v, %v", now, q, got, err, want, wantErr)
	}
	lie, synced := b.disk.Look()
	modelLie, modelSynced := b.model.disk.Look()
	if !bytes.Equal(lie, modelLie) || synced != modelSynced || b.disk.Dead() != b.model.disk.Dead() {
		b.t.Fatalf("layer 19: at %d %+v leaves %q on the disk, want %q", now, q, lie, modelLie)
	}
	if b.source.Left() != b.model.source.Left() {
		b.t.Fatalf("layer 19: at %d %+v leaves %d draws, want %d", now, q, b.source.Left(), b.model.source.Left())
	}
	if err == nil && len(q.Target) <= api.MaxHead && len(q.Body) <= api.MaxBody {
		for _, bare := range []bool{false, true} {
			if _, err := reply.Render(got, bare); err != nil {
				b.t.Fatalf("layer 19, 'Limits': the answer %+v to %+v cannot be written: %v", got, q, err)
			}
		}
	}
	return got, err
}

// must plays a request, and fails unless the answer is that: what stands in the test itself, not in the model.
func (b *bench) must(want api.Reply, now int, q api.Request) {
	b.t.Helper()
	got, err := b.play(now, q)
	if want.Close = q.Close; err != nil || !isSame(got, want) {
		b.t.Fatalf("layer 19: at %d %+v\nanswers %+v, %v\nwant    %+v", now, q, got, err, want)
	}
}

// mustDie plays a request amid which the power fails.
func (b *bench) mustDie(now int, q api.Request) {
	b.t.Helper()
	if got, err := b.play(now, q); err != api.ErrDead || !reflect.DeepEqual(got, api.Reply{}) {
		b.t.Fatalf("P19.6: at %d %+v answers %+v, %v, want nothing and ErrDead", now, q, got, err)
	}
}

// mustKeep plays a request, and fails if it changes what is kept or lies on the disk.
func (b *bench) mustKeep(want api.Reply, now int, q api.Request) {
	b.t.Helper()
	lies, state := look(b.disk), b.store.State()
	b.must(want, now, q)
	if !bytes.Equal(look(b.disk), lies) || !isSameState(b.store.State(), state) {
		b.t.Fatalf("W3, W16: at %d %+v has changed what is kept: %+v behind %+v", now, q, b.store.State(), state)
	}
}

// mustWrite plays a request, and fails unless it puts just that transaction behind what lies on the disk.
func (b *bench) mustWrite(want api.Reply, now int, q api.Request, tx ...api.Record) {
	b.t.Helper()
	lies := look(b.disk)
	b.must(want, now, q)
	if got := look(b.disk); !bytes.Equal(got, append(lies, frame(tx)...)) {
		b.t.Fatalf("layer 19: at %d %+v leaves %q, want %+v behind %q", now, q, got, tx, lies)
	}
}

func look(d *disk.Disk) []byte {
	data, _ := d.Look()
	return data
}

// frame is a transaction on the disk.
func frame(tx []api.Record) []byte {
	payload, err := record.Pack(tx)
	if err != nil {
		panic("a test writes a transaction that may not be")
	}
	f, err := wal.Frame(payload)
	if err != nil {
		panic("a test writes a payload that may not be")
	}
	return f
}

// begin logs a user in at the time 5, by the draw of that byte.
func (b *bench) begin(user string, drawn byte) string {
	b.t.Helper()
	b.push(drawn)
	b.must(entered("/", id(drawn)), 5, login(user, passwords[user]))
	return id(drawn)
}

// allow lets a session allow app these scopes, at the time 6: a code by the draw of that byte.
func (b *bench) allow(sid string, drawn byte, scope string) string {
	b.t.Helper()
	var boxes []string
	for _, word := range strings.Fields(scope) {
		boxes = append(boxes, "grant:"+word, "yes")
	}
	b.push(drawn)
	b.must(redirect(address+"?code="+id(drawn)+"&state=s+1"), 6, deciding(sid, question(scope), "allow", boxes...))
	return id(drawn)
}

// family is a code, a token and a refresh token of app for the user of a session, by these draws, at the times 6 and 7.
func (b *bench) family(sid string, code, token, refresh byte) {
	b.t.Helper()
	b.allow(sid, code, "offline_access read")
	b.push(token, refresh)
	b.must(tokens(id(token), id(refresh), "offline_access read"), 7, redeeming(id(code)))
}
