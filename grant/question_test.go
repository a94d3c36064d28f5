package grant_test

import (
	"math/rand"
	"slices"
	"strings"
	"testing"

	"usher/api"
	"usher/grant"
)

// TestTheQuestion: the seven in their order, whatever order they came in, the scopes in theirs, a state that is not there left out.
func TestTheQuestion(t *testing.T) {
	random := rand.New(rand.NewSource(166))
	b := newBench(t, config(), 1)
	sid := b.begin(1)
	for range 300 {
		params := and(asking(), "x", "y", "scope", "", "state", "", "ticket", "", "client_id", "")
		want := question()
		if random.Intn(2) == 0 {
			params, want = with(params, "state"), with(want, "state")
		}
		random.Shuffle(len(params), func(i, j int) { params[i], params[j] = params[j], params[i] })
		b.must(toLogin(want), ask(6, "", params))
		b.must(toLogin(want), answering(6, "", params))
		b.must(toLogin(want), answering(6, "", and(params, "decision", "deny")))
		b.must(toConsent(sid, "ann", want, "read", "write"), ask(6, sid, params))
	}
}

// TestTheQuestionsValues stand as they came, but for the scopes.
func TestTheQuestionsValues(t *testing.T) {
	b := newBench(t, config(), 1)
	sid := b.begin(1)
	for _, state := range []string{" ", "a b", "%41", "+", "&=", "\"<>'", strings.Repeat("~", 512)} {
		want := with(question(), "state", state)
		b.must(toLogin(want), ask(6, "", with(asking(), "state", state)))
		b.must(toConsent(sid, "ann", want, "read", "write"), ask(6, sid, with(asking(), "state", state)))
	}
	for _, text := range []string{"read write", "write read", "write write read", "read write read write", strings.Repeat("write ", 30) + "read"} {
		b.must(toLogin(question()), ask(6, "", with(asking(), "scope", text)))
		b.must(toConsent(sid, "ann", question(), "read", "write"), ask(6, sid, with(asking(), "scope", text)))
	}
	for _, text := range []string{"write", "write write", "write write write"} {
		b.must(toConsent(sid, "ann", with(question(), "scope", "write"), "write"), ask(6, sid, with(asking(), "scope", text)))
	}
	webs := with(with(with(asking(), "client_id", "web"), "redirect_uri", webAddress), "scope", "read grant:read admin")
	b.must(toConsent(sid, "ann", with(webs, "scope", "admin grant:read read"), "admin", "grant:read", "read"), ask(6, sid, webs))
	for _, to := range config().Clients[0].Redirects {
		b.must(toLogin(with(question(), "redirect_uri", to)), ask(6, "", with(asking(), "redirect_uri", to)))
	}
	long := strings.Repeat("-._~", 32)
	b.must(toLogin(with(question(), "code_challenge", long)), ask(6, "", with(asking(), "code_challenge", long)))
}

// TestTheQuestionIsItsOwn: what was answered as Params is well-formed, and its question is itself.
func TestTheQuestionIsItsOwn(t *testing.T) {
	b := newBench(t, config(), 1)
	sid := b.begin(1)
	got := b.play(ask(6, "", and(asking(), "x", "y"))).verdict
	again := b.play(ask(6, sid, got.Params)).verdict
	if !slices.Equal(again.Params, got.Params) || again.Kind != api.VerConsent {
		t.Errorf("P16.6: of the question %v comes %+v", got.Params, again)
	}
}

// TestTheMostScopes: sixteen of them, each of 32 bytes, allowed one and all.
func TestTheMostScopes(t *testing.T) {
	c := config()
	var scopes []string
	for i := range 16 {
		scopes = append(scopes, string(rune('a'+i))+strings.Repeat("!", 31))
	}
	c.Clients[0].Scopes = scopes
	c.Clients[0].Redirects[0] = "https://a.example/" + strings.Repeat("p", 512-len("https://a.example/"))
	b := newBench(t, c, 1)
	sid := b.begin(1)
	backwards := slices.Clone(scopes)
	slices.Reverse(backwards)
	params := with(with(with(asking(), "scope", strings.Join(backwards, " ")), "redirect_uri", c.Clients[0].Redirects[0]), "code_challenge", strings.Repeat("x", 128))
	asked := with(params, "scope", strings.Join(scopes, " "))
	b.must(toConsent(sid, "ann", asked, scopes...), ask(6, sid, params))
	b.allow(2, sid, asked, scopes...)
	if got, ok := b.store.Code(id(2)); !ok || !slices.Equal(got.Scopes, scopes) {
		t.Errorf("P16.9: the store has %+v, %v", got, ok)
	}
	b.must(back(api.InvalidScope, c.Clients[0].Redirects[0]+"?error=invalid_scope&state=s1"), ask(6, sid, with(params, "scope", strings.Join(scopes, " ")+" q")))
}

// TestTicket is its formula, by the library's own sums, at any texts.
func TestTicket(t *testing.T) {
	random := rand.New(rand.NewSource(167))
	texts := []string{"", "a", "A", " ", "+", "%", "&", "=", "a=b&c", "\x00", "\xff", "é", "~-._", id(1), id(2), strings.Repeat("k", 64), strings.Repeat("k", 65), strings.Repeat("k", 1000)}
	seen := map[string]string{}
	for range 3000 {
		var list []api.Pair
		for range random.Intn(5) {
			list = append(list, api.Pair{Name: texts[random.Intn(len(texts))], Value: texts[random.Intn(len(texts))]})
		}
		sid := texts[random.Intn(len(texts))]
		got := grant.Ticket(sid, list)
		if want := ticketOf(sid, list); got != want || len(got) != 43 {
			t.Fatalf("P16.10: Ticket(%q, %q) = %q, want %q", sid, list, got, want)
		}
		key := strings.TrimRight(sid, "\x00") + "\x00" + formOf(list) // a key of less than 64 bytes is filled up with zero bytes
		if was, ok := seen[got]; ok && was != key {
			t.Fatalf("P16.10: %q and %q have one ticket", was, key)
		}
		seen[got] = key
	}
	if got := grant.Ticket("", nil); got != "thNnmggU2ex3L5XXeMNfxf8Wl8STcVZTxscSFEKSxa0" {
		t.Errorf("P16.10: Ticket of nothing = %q", got)
	}
	if len(seen) < 1000 {
		t.Errorf("%d tickets: too few to tell", len(seen))
	}
}

// TestTicketsPart: with another session, or with one thing of the question changed, it is another one.
func TestTicketsPart(t *testing.T) {
	order := question()
	order[0], order[1] = order[1], order[0]
	lists := [][]api.Pair{nil, question(), order}
	for i, p := range question() {
		for _, value := range []string{p.Value + "y", "y" + p.Value, p.Value[1:], "", p.Value + "&"} {
			lists = append(lists, with(question(), p.Name, value))
		}
		lists = append(lists, with(question(), p.Name), question()[:i], and(question(), p.Name, p.Value))
	}
	for i, a := range lists {
		for _, b := range lists[:i] {
			if same := grant.Ticket(id(1), a) == grant.Ticket(id(1), b); same != slices.Equal(a, b) {
				t.Errorf("P16.10: %v and %v have one ticket: %v", a, b, same)
			}
		}
		if grant.Ticket(id(1), a) == grant.Ticket(id(2), a) || grant.Ticket(id(1), a) == grant.Ticket("", a) {
			t.Errorf("P16.10: for %v two sessions have one ticket", a)
		}
	}
}
