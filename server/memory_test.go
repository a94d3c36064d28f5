package server_test

import (
	"reflect"
	"slices"
	"testing"

	"usher/api"
	"usher/server"
)

// roomy is a list with spare room that holds something.
func roomy[T any](list []T, spare T) []T {
	return append(slices.Clone(list), spare, spare, spare)[:len(list)]
}

// whole is what a list and its spare room hold.
func whole[T any](list []T) []T { return slices.Clone(list[:cap(list)]) }

// scribble writes a list full, its spare room too, and appends to it.
func scribble[T any](list []T, by T) {
	all := list[:cap(list)]
	for i := range all {
		all[i] = by
	}
	_ = append(list, by)
	if len(list) > 1 {
		_ = append(list[:1], by, by)
	}
}

// A turn is a request at a time.
type turn struct {
	now int
	q   api.Request
}

// everyAnswer is requests, one behind the other, that come to every answer which there is: on a bench of prepared, with the draws 30, 31 and on.
func everyAnswer() []turn {
	sid := id(1)
	list := []turn{
		{9, getting("/nothing")}, {9, request("PUT", "/")}, {9, request("PUT", "/token")}, {9, request("POST", "/login")}, {9, request("POST", "/token")}, {9, getting("/?%")}, {9, sending("/revoke", "%")},
		{9, getting("/")}, {9, by(sid, getting("/"))}, {9, getting("/login?next=/a")}, {9, request("HEAD", "/login?next=/a")}, {9, sending("/login", "user=ann")}, {9, login("ann", "no")}, {9, login("ann", "no")}, {9, login("ann", "pw")}, {9, logout()},
		{9, authorize(nil)}, {9, authorize(question("admin"))}, {9, authorize(question("read"))}, {9, by(sid, authorize(question("write")))}, {9, posting("/consent", question("read"))}, {9, by(sid, posting("/consent", question("read")))}, {9, by(sid, sending("/withdraw", "client_id=app"))}, {9, withdrawing(sid, "web")}, {9, deciding(sid, question("read"), "deny")},
		{9, sending("/token", "")}, {9, as(web(), as(web(), sending("/token", "")))}, {9, introspecting(id(3))}, {9, introspecting("x")}, {9, revoking("x")}, {-1, renewing(id(4))}, {9, renewing("x")},
	}
	for _, w := range writers() {
		if w.name != "logout" && w.name != "withdraw" { // behind which the others would find nothing
			list = append(list, turn{9, w.q})
		}
	}
	list = append(list, turn{9, withdrawing(sid, "app")}, turn{9, by(sid, logout())})
	return append(list, turn{9, login("bob", "wp")}, turn{9, login("bob", "wp")}) // a draw that is known, and none
}

// remembering is a bench for everyAnswer, with a brake.
func remembering(t *testing.T, c api.Config) *bench {
	t.Helper()
	c.Fails, c.LockTime = 2, 10
	b := benchOn(t, c, look(prepared(t).disk), plenty)
	b.push(30, 31, 32, 33, 34, 35, 36, 1)
	return b
}

// TestEveryAnswerIsMet: the other tests of memory would tell nothing if everyAnswer met too little.
func TestEveryAnswerIsMet(t *testing.T) {
	b := remembering(t, config())
	met := map[int]int{}
	for _, u := range everyAnswer() {
		got, err := b.play(u.now, u.q)
		if err != nil {
			t.Fatal(err)
		}
		met[got.Status]++
	}
	for status, least := range map[int]int{200: 8, 303: 8, 400: 8, 401: 1, 403: 4, 404: 1, 405: 2, 415: 2, 429: 1, 500: 3} {
		if met[status] < least {
			t.Errorf("%d was answered %d times", status, met[status])
		}
	}
}

// TestNothingHandedIsKept: who writes into a request's fields behind the call changes neither its answer nor a later one: the model holds. (That the call itself leaves them as they were, each play looks at.)
func TestNothingHandedIsKept(t *testing.T) {
	b := remembering(t, config())
	for _, u := range everyAnswer() {
		want, _ := b.model.expect(u.now, u.q)
		u.q.Fields = roomy(u.q.Fields, api.Pair{Name: "cookie", Value: "sid=spare"})
		got, err := b.server.Serve(u.now, u.q)
		was, state := plain(got), b.store.State()
		scribble(u.q.Fields, api.Pair{Name: "cookie", Value: "sid=" + id(1)})
		if err != nil || !isSame(got, want) || !isSame(got, was) || !isSameState(b.store.State(), state) {
			t.Errorf("P0.5: the answer to %+v was %+v, %v and is %+v, want %+v", u, was, err, got, want)
		}
	}
}

// TestAnswersAreNew: who writes into one, or appends to it, changes neither another one, before it or behind it, nor what is kept.
func TestAnswersAreNew(t *testing.T) {
	b := remembering(t, config())
	var answers, copies []api.Reply
	spoil := api.Pair{Name: "Location", Value: "//evil.example"}
	for _, u := range everyAnswer() {
		got, _ := b.play(u.now, u.q)
		answers, copies = append(answers, got), append(copies, plain(got))
		if got.Status == 200 || got.Status >= 400 { // it may be asked again
			first, _ := b.play(u.now, u.q)
			was, state := plain(first), b.store.State()
			second, _ := b.play(u.now, u.q)
			scribble(second.Fields, spoil)
			if !isSame(first, was) || !isSameState(b.store.State(), state) {
				t.Errorf("P0.5: writing into an answer to %+v changes another one, or what is kept", u)
			}
		}
	}
	for i := range answers {
		if !isSame(answers[i], copies[i]) {
			t.Errorf("P0.5: the answer %d was %+v and is %+v", i, copies[i], answers[i])
		}
		scribble(answers[i].Fields, spoil)
	}
	for _, u := range everyAnswer() { // and the model holds still
		b.play(u.now, u.q)
	}
}

// spacious is a configuration whose lists have spare room that holds something.
func spacious() api.Config {
	c := config()
	c.Clients = roomy(c.Clients, api.Client{ID: "spare"})
	c.Users = roomy(c.Users, api.User{Name: "spare"})
	for i := range c.Clients {
		c.Clients[i].Scopes = roomy(c.Clients[i].Scopes, "spare")
		c.Clients[i].Redirects = roomy(c.Clients[i].Redirects, "spare")
	}
	return c
}

// TestTheConfigurationStaysAsItWas, the spare room of its lists too.
func TestTheConfigurationStaysAsItWas(t *testing.T) {
	c := spacious()
	b := remembering(t, c)
	for _, u := range everyAnswer() {
		got, _ := b.play(u.now, u.q)
		scribble(got.Fields, api.Pair{})
	}
	if !reflect.DeepEqual(c, config()) || !reflect.DeepEqual(whole(c.Clients)[3:], whole(spacious().Clients)[3:]) || !reflect.DeepEqual(whole(c.Users), whole(spacious().Users)) {
		t.Errorf("P0.5: the configuration has become %+v", c)
	}
	for i, client := range c.Clients {
		if other := spacious().Clients[i]; !slices.Equal(whole(client.Scopes), whole(other.Scopes)) || !slices.Equal(whole(client.Redirects), whole(other.Redirects)) {
			t.Errorf("P0.5: a client has become %+v", client)
		}
	}
}

// TestTheConfigurationIsNotKept: who writes into its lists behind New changes no answer.
func TestTheConfigurationIsNotKept(t *testing.T) {
	b := remembering(t, config())
	c := spacious()
	c.Fails, c.LockTime = 2, 10
	b.server = server.New(c, b.store, b.source)
	for i := range c.Clients {
		scribble(c.Clients[i].Scopes, "evil")
		scribble(c.Clients[i].Redirects, "https://evil.example/cb")
	}
	scribble(c.Clients, api.Client{ID: "evil", Public: true, Redirects: []string{"https://evil.example/cb"}, Scopes: []string{"evil"}})
	scribble(c.Users, api.User{Name: "evil", Secret: secretOf("evil")})
	for _, u := range everyAnswer() {
		b.play(u.now, u.q)
	}
	b.mustKeep(denied("/"), 9, login("evil", "evil"))
}

// TestNewChangesNothing: it asks neither the disk nor the source.
func TestNewChangesNothing(t *testing.T) {
	b := remembering(t, config())
	state, lies, left := b.store.State(), look(b.disk), b.source.Left()
	b.disk.Arm(0, 0)
	if server.New(b.config, b.store, b.source) == nil || b.disk.Dead() || b.source.Left() != left || !slices.Equal(look(b.disk), lies) || !isSameState(b.store.State(), state) {
		t.Error("layer 19: New has changed something")
	}
}

// TestTwoServers: over one store and one source they see the same, at once, but each has a brake of its own; over two they have nothing to do with one another.
func TestTwoServers(t *testing.T) {
	b := newBench(t, braked(1, 100))
	first, second := b.server, server.New(b.config, b.store, b.source)
	other := newBench(t, braked(1, 100))
	b.must(denied("/"), 5, login("bob", "no"))
	b.must(locked(100), 5, login("bob", "wp"))
	sid := b.begin("ann", 1)
	b.server = second
	b.push(2)
	if got, err := second.Serve(5, login("bob", "wp")); err != nil || !isSame(got, entered("/", id(2))) {
		t.Errorf("P0.7: %+v, %v", got, err)
	}
	if got, err := second.Serve(6, by(sid, getting("/"))); err != nil || !isSame(got, homeOf(sid, "ann")) {
		t.Errorf("P0.7: %+v, %v", got, err)
	}
	if got, err := second.Serve(6, by(sid, logout())); err != nil || !isSame(got, left) {
		t.Errorf("P0.7: %+v, %v", got, err)
	}
	if got, err := first.Serve(6, by(sid, getting("/"))); err != nil || !isSame(got, strangers) {
		t.Errorf("P0.7: %+v, %v", got, err)
	}
	other.mustKeep(strangers, 6, by(id(2), getting("/")))
	other.mustKeep(errorPage(500, "server_error"), 6, login("bob", "wp"))
	other.mustKeep(denied("/"), 6, login("bob", "no"))
}
