package grant_test

import (
	"math/rand"
	"slices"
	"strings"
	"testing"

	"usher/api"
)

// A fault is a parameter's values in the place of its right one.
type fault struct {
	name   string
	values []string
}

// A row is one of P16.5's table: when it applies, and its verdict.
type row struct {
	faults  []fault
	reason  string
	isShown bool
}

// rows are P16.5's table, in its order. A later row of the same parameter is taken back by an earlier one.
func rows() []row {
	long := strings.Repeat("s", 513)
	return []row{
		{[]fault{{"client_id", nil}, {"client_id", []string{""}}, {"client_id", []string{"", ""}}, {"client_id", []string{"app", "app"}}, {"client_id", []string{"app", "web"}}, {"client_id", []string{"nobody", "app", "app"}}}, api.InvalidRequest, true},
		{[]fault{{"client_id", []string{"App"}}, {"client_id", []string{"ap"}}, {"client_id", []string{"app "}}, {"client_id", []string{"appp"}}, {"client_id", []string{"ann"}}, {"client_id", []string{"\x00"}}, {"client_id", []string{"", "nobody"}}}, api.InvalidClient, true},
		{[]fault{
			{"redirect_uri", nil}, {"redirect_uri", []string{""}}, {"redirect_uri", []string{address, address}}, {"redirect_uri", []string{address, "https://a.example/"}}, {"redirect_uri", []string{webAddress}},
			{"redirect_uri", []string{address + "2"}}, {"redirect_uri", []string{address + "/"}}, {"redirect_uri", []string{address + "#"}}, {"redirect_uri", []string{address + "?k=1"}}, {"redirect_uri", []string{"https://A.example/cb"}}, {"redirect_uri", []string{address[:len(address)-1]}}, {"redirect_uri", []string{"https://evil.example/cb"}}, {"redirect_uri", []string{"com.example.app:/cb"}}, {"redirect_uri", []string{"x"}},
		}, api.InvalidRequest, true},
		{[]fault{{"state", []string{"s1", "s1"}}, {"state", []string{"s1", "s2"}}, {"state", []string{"s1", "", "s1"}}, {"state", []string{"\x80"}}, {"state", []string{"\n"}}, {"state", []string{"a\x7f"}}, {"state", []string{"\x1f"}}, {"state", []string{"é"}}, {"state", []string{long}}, {"state", []string{"\x00", "\x00"}}}, api.InvalidRequest, false},
		{[]fault{{"response_type", nil}, {"response_type", []string{""}}, {"response_type", []string{"code", "code"}}, {"response_type", []string{"token", "code"}}}, api.InvalidRequest, false},
		{[]fault{{"response_type", []string{"token"}}, {"response_type", []string{"Code"}}, {"response_type", []string{"code "}}, {"response_type", []string{"code token"}}, {"response_type", []string{"", "c"}}}, api.UnsupportedResponseType, false},
		{[]fault{{"scope", nil}, {"scope", []string{""}}, {"scope", []string{"read", "read"}}, {"scope", []string{"read", "write"}}, {"scope", []string{"read  write"}}, {"scope", []string{" read"}}, {"scope", []string{"read "}}, {"scope", []string{"read\twrite"}}, {"scope", []string{"read\""}}, {"scope", []string{"admin"}}, {"scope", []string{"read admin"}}, {"scope", []string{"Read"}}, {"scope", []string{"rea"}}, {"scope", []string{"readwrite"}}, {"scope", []string{strings.Repeat("r", 33)}}, {"scope", []string{"a b c d e f g h i j k l m n o p q"}}}, api.InvalidScope, false},
		{[]fault{{"code_challenge", nil}, {"code_challenge", []string{""}}, {"code_challenge", []string{challenge, challenge}}, {"code_challenge", []string{challenge[:42]}}, {"code_challenge", []string{challenge[:42] + "="}}, {"code_challenge", []string{challenge + "+"}}, {"code_challenge", []string{strings.Repeat("x", 129)}}, {"code_challenge", []string{challenge + "\x00"}}}, api.InvalidRequest, false},
		{[]fault{{"code_challenge_method", nil}, {"code_challenge_method", []string{""}}, {"code_challenge_method", []string{"S256", "S256"}}, {"code_challenge_method", []string{"plain"}}, {"code_challenge_method", []string{"s256"}}, {"code_challenge_method", []string{"S2566"}}, {"code_challenge_method", []string{"plain", "S256"}}}, api.InvalidRequest, false},
	}
}

// verdict is the row's, for a request to address; with the state, if there is a good one.
func (r row) verdict(state string) answer {
	if r.isShown {
		return page(r.reason)
	}
	to := address + "?error=" + r.reason
	if state != "" {
		to += "&state=" + state
	}
	return back(r.reason, to)
}

// mustFault fails unless both calls answer that, with a session that lives and without, and whatever else the form says.
func (b *bench) mustFault(sid string, want answer, params []api.Pair) {
	b.t.Helper()
	for _, who := range []string{sid, ""} {
		b.must(want, ask(6, who, params))
		b.must(want, answering(6, who, params))
		b.must(want, answering(6, who, and(params, "decision", "allow", "grant:read", "yes", "ticket", ticketOf(who, params))))
	}
}

// TestEachRow alone, with each of its faults.
func TestEachRow(t *testing.T) {
	b := newBench(t, config(), 1)
	sid := b.begin(1)
	b.push(draw(2))
	for i, r := range rows() {
		for _, f := range r.faults {
			state := "s1"
			if i == 3 {
				state = ""
			}
			b.mustFault(sid, r.verdict(state), with(asking(), f.name, f.values...))
			if i != 3 {
				b.mustFault(sid, r.verdict(""), with(with(asking(), f.name, f.values...), "state"))
				b.mustFault(sid, r.verdict(""), with(with(asking(), f.name, f.values...), "state", "", ""))
				b.mustFault(sid, r.verdict("+%26%3D%2B~"), with(with(asking(), f.name, f.values...), "state", " &=+~"))
			}
		}
	}
	b.mustFault(sid, page(api.InvalidRequest), nil)
	b.mustFault(sid, page(api.InvalidRequest), []api.Pair{})
}

// TestTheFirstRowDecides: each fault of each row, with each fault of each row behind it.
func TestTheFirstRowDecides(t *testing.T) {
	b := newBench(t, config(), 1)
	sid := b.begin(1)
	table := rows()
	for i, r := range table {
		for _, f := range r.faults {
			for j := i + 1; j < len(table); j++ {
				for _, later := range table[j].faults {
					params := with(with(asking(), later.name, later.values...), f.name, f.values...)
					state := "s1"
					if i == 3 || j == 3 {
						state = ""
					}
					b.must(r.verdict(state), ask(6, sid, params))
					b.must(r.verdict(state), answering(6, "", params))
				}
			}
		}
	}
}

// TestManyRowsAtOnce: any rows together, by chance, in any order of the parameters.
func TestManyRowsAtOnce(t *testing.T) {
	random := rand.New(rand.NewSource(165))
	b := newBench(t, config(), 1)
	sid := b.begin(1)
	table := rows()
	for range 20 {
		for set := range 1 << len(table) {
			params := asking()
			first := -1
			for i, r := range slices.Backward(table) {
				if set>>i&1 == 1 {
					f := r.faults[random.Intn(len(r.faults))]
					params = with(params, f.name, f.values...)
					first = i
				}
			}
			random.Shuffle(len(params), func(i, j int) { params[i], params[j] = params[j], params[i] })
			got := b.play(ask(6, sid, params))
			b.play(answering(6, sid, params))
			if first < 0 {
				if got.verdict.Kind != api.VerConsent {
					t.Fatalf("P16.5: %v answers %+v", params, got.verdict)
				}
				continue
			}
			state := "s1"
			if set>>3&1 == 1 {
				state = ""
			}
			if !isSame(got, table[first].verdict(state)) {
				t.Fatalf("P16.5: %v answers %+v, want %+v", params, got, table[first].verdict(state))
			}
		}
	}
}

// TestNothingIsDoneForAFault: no draw is taken and nothing is written, though the user has allowed all of it.
func TestNothingIsDoneForAFault(t *testing.T) {
	b := newBench(t, config(), 1)
	sid := b.begin(1)
	b.allow(2, sid, question(), "read", "write")
	b.push(draw(3))
	lies := look(b.disk)
	for _, r := range rows() {
		for _, f := range r.faults {
			b.play(ask(8, sid, with(asking(), f.name, f.values...)))
			b.play(answering(8, sid, with(formed(sid, question(), "decision", "allow", "grant:read", "yes"), f.name, f.values...)))
		}
	}
	b.mustHold(lies)
	b.must(codeBack(id(3)), ask(8, sid, asking()))
}

// TestWhatMayStandThere: the ends of what is well-formed.
func TestWhatMayStandThere(t *testing.T) {
	b := newBench(t, config(), 1)
	sid := b.begin(1)
	for _, f := range []fault{
		{"state", []string{strings.Repeat("s", 512)}}, {"state", []string{" "}}, {"state", []string{"~"}}, {"state", []string{"", "s1"}}, {"state", []string{"s1", "", ""}},
		{"scope", []string{"read"}}, {"scope", []string{"write"}}, {"scope", []string{strings.Repeat("read ", 40) + "read"}}, {"scope", []string{"", "read", ""}},
		{"code_challenge", []string{strings.Repeat("x", 128)}}, {"code_challenge", []string{strings.Repeat("-._~", 11)}}, {"code_challenge", []string{"", challenge}},
		{"code_challenge_method", []string{"", "S256", ""}}, {"client_id", []string{"", "app", ""}}, {"redirect_uri", []string{address + "?"}}, {"redirect_uri", []string{"", "com.example.app:/cb?k?"}}, {"response_type", []string{"code", ""}},
	} {
		params := with(asking(), f.name, f.values...)
		if got := b.play(ask(6, sid, params)); got.verdict.Kind != api.VerConsent {
			t.Errorf("P16.5: %v answers %+v", params, got.verdict)
		}
		if got := b.play(ask(6, "", params)); got.verdict.Kind != api.VerLogin {
			t.Errorf("P16.6: %v answers %+v", params, got.verdict)
		}
		if got := b.play(answering(6, sid, params)); got.verdict.Kind != api.VerForged {
			t.Errorf("P16.8: %v answers %+v", params, got.verdict)
		}
	}
}

// TestEachClientItsOwn: addresses and scopes are those of the client that is named.
func TestEachClientItsOwn(t *testing.T) {
	b := newBench(t, config(), 1)
	sid := b.begin(1)
	webs := with(with(with(asking(), "client_id", "web"), "redirect_uri", webAddress), "scope", "admin read")
	b.must(toConsent(sid, "ann", webs, "admin", "read"), ask(6, sid, webs))
	b.mustFault(sid, back(api.InvalidScope, webAddress+"&error=invalid_scope&state=s1"), with(webs, "scope", "write"))
	b.mustFault(sid, page(api.InvalidRequest), with(webs, "redirect_uri", address))
	b.mustFault(sid, page(api.InvalidRequest), with(webs, "client_id", "app"))
}

// TestOthersAreNotLookedAt: parameters that no rule names, however they are called and however often they stand there.
func TestOthersAreNotLookedAt(t *testing.T) {
	b := newBench(t, config(), 1)
	sid := b.begin(1)
	others := pairs("", "", "", "x", "x", "y", "x", "y", "Client_id", "web", "client_id ", "web", "STATE", "\x00", "scopes", "admin", "code", "c", "error", "e", "nonce", "\xff\n", "grant:", "yes", "grant:admin", "yes", "decision", "maybe", "ticket", "t")
	want := toConsent(sid, "ann", question(), "read", "write")
	b.must(want, ask(6, sid, append(slices.Clone(others), asking()...)))
	b.must(want, ask(6, sid, append(asking(), others...)))
	for i := range others {
		b.must(want, ask(6, sid, append(asking(), others[i])))
		b.must(toLogin(question()), ask(6, "", append(asking(), others[i])))
	}
	b.push(draw(2))
	more := with(with(append(slices.Clone(others), asking()...), "decision", "allow"), "ticket", ticketOf(sid, question()))
	b.must(codeBack(id(2)), answering(6, sid, and(more, "grant:read", "yes")))
}
