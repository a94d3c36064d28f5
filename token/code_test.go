package token_test

import (
	"math"
	"slices"
	"strings"
	"testing"

	"usher/api"
)

// A situation is a request for a token, and all on which its answer hangs.
type situation struct {
	now    int
	auth   string
	params []api.Pair
	others [][]api.Record // what others have written behind the code
	draws  []byte
	spare  int // bytes of room
	isDead bool
}

// A fault is what makes one of P17.3's steps apply. They are counted finer than there: the second and third are the two halves of its step 2, the last three the errors of its step 8.
type fault struct {
	step int
	want answer
	do   func(s *situation)
}

// wellMade is a request that gets a token and a refresh token: of web, for the code 1, with the draws 10 and 11.
func wellMade() *situation {
	return &situation{now: 14, auth: basic("web"), params: asking(1), draws: []byte{10, 11}, spare: 1000}
}

// bench is a bench in that situation. It knows the code 1, and a family of svc: 20, 21, 22, and a session 23.
func (s *situation) bench(t *testing.T) *bench {
	t.Helper()
	b := newBench(t, config(), 1)
	b.code(1, "web", "offline_access", "read")
	b.family(20, 21, 22, "svc", "read")
	b.commit(api.Record{Kind: api.RecSession, ID: id(23), User: "ann", At: 1})
	for _, tx := range s.others {
		b.commit(tx...)
	}
	lies := look(b.disk)
	b = benchOn(t, config(), 1, lies, len(lies)+s.spare)
	b.push(s.draws...)
	if s.isDead {
		b.counts = false
		b.disk.Crash(0)
	}
	return b
}

func (s *situation) call() call { return redeem(s.now, s.auth, s.params) }

// faults are those of all steps, in the order of the steps.
func faults() []fault {
	set := func(name string, values ...string) func(s *situation) {
		return func(s *situation) { s.params = with(s.params, name, values...) }
	}
	from := func(auth string, texts ...string) func(s *situation) {
		return func(s *situation) {
			s.auth, s.params = auth, and(with(with(s.params, "client_id"), "client_secret"), texts...)
		}
	}
	written := func(txs ...[]api.Record) func(s *situation) {
		return func(s *situation) { s.others = append(s.others, txs...) }
	}
	drawn := func(draws ...byte) func(s *situation) { return func(s *situation) { s.draws = draws } }
	at := func(now int) func(s *situation) { return func(s *situation) { s.now = now } }
	list := []fault{
		{1, refused("invalid_client"), from("")}, {1, refused("invalid_client"), from("Bearer x")}, {1, refused("invalid_client"), from(basicOf("web", "no"))}, {1, refused("invalid_client"), from("", "client_id", "web", "client_secret", "no")},
		{1, refused("invalid_request"), from(basic("web"), "client_secret", "pw")}, {1, refused("invalid_request"), from(basic("web"), "client_id", "app")},

		{2, refused("invalid_request"), set("grant_type")}, {2, refused("invalid_request"), set("grant_type", "")}, {2, refused("invalid_request"), set("grant_type", "authorization_code", "authorization_code")}, {2, refused("invalid_request"), set("grant_type", "refresh_token", "password")},
		{3, refused("unsupported_grant_type"), set("grant_type", "refresh_token")}, {3, refused("unsupported_grant_type"), set("grant_type", "password")}, {3, refused("unsupported_grant_type"), set("grant_type", "Authorization_code")}, {3, refused("unsupported_grant_type"), set("grant_type", "", "authorization_code ")}, {3, refused("unsupported_grant_type"), set("grant_type", "code")},
	}
	for _, p := range asking(1)[1:] {
		for _, values := range [][]string{nil, {""}, {p.Value, p.Value}, {p.Value, "", "x"}} {
			list = append(list, fault{4, refused("invalid_request"), set(p.Name, values...)})
		}
	}
	for _, code := range []string{id(9), "x", id(21), id(22), id(23), id(1)[:42], id(1) + "A", strings.ToLower(id(1)), " " + id(1)} {
		list = append(list, fault{5, refused("invalid_grant"), set("code", code)})
	}
	list = append(list,
		fault{5, refused("invalid_grant"), set("code", id(20))}, // another client's code
		fault{5, refused("invalid_grant"), from(basic("svc"))},
		fault{5, refused("invalid_grant"), from("", "client_id", "app")},

		fault{6, refused("invalid_grant"), written([]api.Record{redeemedRecord(id(1))})},
		fault{6, refused("invalid_grant"), written([]api.Record{redeemedRecord(id(1)), tokenRecord(id(30), id(1), "web", 9, "read"), refreshRecord(id(31), id(1), "web", 9, "read")})},
		fault{6, refused("invalid_grant"), written([]api.Record{redeemedRecord(id(1)), burnedRecord(id(1))})},
		fault{6, refused("invalid_grant"), written([]api.Record{{Kind: api.RecConsent, User: "ann", Client: "web", Scopes: []string{"read"}, At: 6}}, []api.Record{{Kind: api.RecWithdrawn, User: "ann", Client: "web"}})},

		fault{7, refused("invalid_grant"), at(15)}, fault{7, refused("invalid_grant"), at(16)}, fault{7, refused("invalid_grant"), at(math.MaxInt)},
	)
	for _, to := range []string{address + "/", address[:len(address)-1], address + "?", "https://w.example/cB", "https://W.example/cb", "https://x.example/cb", "x", " " + address} {
		list = append(list, fault{7, refused("invalid_grant"), set("redirect_uri", to)})
	}
	for _, shown := range []string{"v", verifier[1:], verifier + "v", strings.Repeat("w", 43), verifier[1:] + "V", challengeOf(verifier), verifier[1:] + "+"} {
		list = append(list, fault{7, refused("invalid_grant"), set("code_verifier", shown)})
	}
	return append(list,
		fault{8, failure(api.ErrDry), drawn()}, fault{8, failure(api.ErrDry), drawn(10)},
		fault{8, failure(api.ErrTaken), drawn(1)}, fault{8, failure(api.ErrTaken), drawn(20, 11)}, fault{8, failure(api.ErrTaken), drawn(21, 11)}, fault{8, failure(api.ErrTaken), drawn(22, 11)}, fault{8, failure(api.ErrTaken), drawn(23, 11)},
		fault{8, failure(api.ErrTaken), drawn(10, 1)}, fault{8, failure(api.ErrTaken), drawn(10, 21, 11)},

		fault{9, failure(api.ErrArg), at(-1)}, fault{9, failure(api.ErrArg), at(math.MinInt)},
		fault{10, failure(api.ErrTaken), drawn(10, 10)}, fault{10, failure(api.ErrTaken), drawn(10, 10, 11)},
		fault{11, failure(api.ErrFull), func(s *situation) { s.spare = 0 }}, fault{11, failure(api.ErrFull), func(s *situation) { s.spare = 200 }},
		fault{11, failure(api.ErrDead), func(s *situation) { s.isDead = true }},
	)
}

// TestStepsOfToken: each fault alone, and ahead of each of those of later steps.
func TestStepsOfToken(t *testing.T) {
	s := wellMade()
	b := s.bench(t)
	lies := look(b.disk)
	b.must(givenBoth(id(10), id(11), "offline_access read"), s.call())
	b.mustHold(lies, []api.Record{redeemedRecord(id(1)), tokenRecord(id(10), id(1), "web", 14, "offline_access", "read"), refreshRecord(id(11), id(1), "web", 14, "offline_access", "read")})
	list := faults()
	for i, first := range list {
		s := wellMade()
		first.do(s)
		b := s.bench(t)
		before := b.store.State()
		b.must(first.want, s.call())
		if first.step != 6 && !isSameState(before, b.store.State()) {
			t.Errorf("P17.3: the step %d has changed the store", first.step)
		}
		if first.step < 8 && b.source.Left() != 2 {
			t.Errorf("P17.3: the step %d has used up a draw", first.step)
		}
		for _, later := range list[i+1:] {
			if later.step == first.step || first.step == 6 && later.step == 11 {
				continue // a burning needs the disk, too
			}
			s := wellMade()
			later.do(s)
			first.do(s)
			s.bench(t).must(first.want, s.call())
		}
	}
}

// TestDrawsOfToken: as many are used up as were asked for, the draws behind them wait on.
func TestDrawsOfToken(t *testing.T) {
	for _, c := range []struct {
		draws []byte
		left  int
		want  answer
	}{
		{nil, 0, failure(api.ErrDry)}, {[]byte{10}, 0, failure(api.ErrDry)}, {[]byte{1}, 0, failure(api.ErrTaken)}, {[]byte{1, 10}, 1, failure(api.ErrTaken)}, {[]byte{10, 1}, 0, failure(api.ErrTaken)}, {[]byte{10, 1, 11}, 1, failure(api.ErrTaken)}, {[]byte{10, 10}, 0, failure(api.ErrTaken)}, {[]byte{10, 10, 11}, 1, failure(api.ErrTaken)},
		{[]byte{10, 11}, 0, givenBoth(id(10), id(11), "offline_access read")}, {[]byte{11, 10, 12, 13}, 2, givenBoth(id(11), id(10), "offline_access read")},
	} {
		s := wellMade()
		s.draws = c.draws
		b := s.bench(t)
		before := b.store.State()
		b.must(c.want, s.call())
		if b.source.Left() != c.left {
			t.Errorf("P17.3: of the draws %v are left %d", c.draws, b.source.Left())
		}
		if c.want.err != nil && !isSameState(before, b.store.State()) {
			t.Errorf("P17.3: with the draws %v the store has changed", c.draws)
		}
	}
	b := newBench(t, config(), 1)
	b.code(1, "web", "read")
	b.push(1, 2, 2)
	b.must(failure(api.ErrTaken), redeem(6, basic("web"), asking(1)))
	b.must(given(id(2), "read"), redeem(6, basic("web"), asking(1)))
	if b.source.Left() != 1 {
		t.Errorf("P17.3: %d draws are left", b.source.Left())
	}
}

// TestScopesOfToken: they are the code's; only the very scope offline_access gives a refresh token.
func TestScopesOfToken(t *testing.T) {
	many := strings.Fields("a b c d e f g h i j k l m n o offline_access")
	for _, scopes := range [][]string{
		{"read"}, {"read", "write"}, {"offline_access"}, {"Offline_access"}, {"offline_acces"}, {"offline_access2"}, {"offline_access", "read"}, {"a", "offline_access"}, {"a", "offline_access", "z"}, many, many[:15], {"!", "~"}, {strings.Repeat("s", 32)},
	} {
		b := newBench(t, config(), 1)
		b.code(1, "web", scopes...)
		lies := look(b.disk)
		b.push(2, 3)
		tx := []api.Record{redeemedRecord(id(1)), tokenRecord(id(2), id(1), "web", 6, scopes...)}
		if slices.Contains(scopes, "offline_access") {
			tx = append(tx, refreshRecord(id(3), id(1), "web", 6, scopes...))
			b.must(givenBoth(id(2), id(3), strings.Join(scopes, " ")), redeem(6, basic("web"), and(asking(1), "scope", "read")))
		} else {
			b.must(given(id(2), strings.Join(scopes, " ")), redeem(6, basic("web"), and(asking(1), "scope", "offline_access")))
		}
		b.mustHold(lies, tx)
	}
}

// TestPeopleOfToken: the token is that of the code's client and user; who asks may be public, or have shown its secret in either way.
func TestPeopleOfToken(t *testing.T) {
	for _, c := range []struct {
		client, auth string
		params       []api.Pair
	}{
		{"app", "", pairs("client_id", "app")}, {"web", basic("web"), nil}, {"web", basic("web"), pairs("client_id", "web")}, {"web", "", pairs("client_id", "web", "client_secret", "pw")}, {"mute", basic("mute"), nil}, {"a:b%+&=", basic("a:b%+&="), nil},
	} {
		for _, user := range []string{"ann", "b:o", "~"} {
			b := newBench(t, config(), 1)
			r := codeRecord(id(1), c.client, 5, "read")
			r.User, r.Redirect, r.Challenge = user, appAddress, challengeOf(strings.Repeat("-._~", 32))
			b.commit(r)
			b.push(2)
			form := with(with(asking(1), "redirect_uri", appAddress), "code_verifier", strings.Repeat("-._~", 32))
			b.must(given(id(2), "read"), redeem(7, c.auth, append(form, c.params...)))
			if got, ok := b.store.Token(id(2)); !ok || got.User != user || got.Client != c.client || got.Code != id(1) || got.At != 7 || got.Revoked {
				t.Errorf("P17.3: the store has %+v, %v", got, ok)
			}
			if got, ok := b.store.Code(id(1)); !ok || !got.Used || got.Burned {
				t.Errorf("P17.3: the store has %+v, %v", got, ok)
			}
			b.must(told(c.client, user, "read", 7), introspect(8, basic("svc"), pairs("token", id(2))))
		}
	}
}

// TestVerifiers: what is shown must be a verifier, not only have the challenge; and the challenge must be its own, as a text.
func TestVerifiers(t *testing.T) {
	for _, c := range []struct {
		shown, challenge string
		isGood           bool
	}{
		{verifier, challengeOf(verifier), true}, {strings.Repeat("aA0-._~", 10), challengeOf(strings.Repeat("aA0-._~", 10)), true}, {strings.Repeat("z", 128), challengeOf(strings.Repeat("z", 128)), true},
		{"dBjftJeZ4CVP-mB92K27uhbUJU1p1r_wW1gFWFOEjXk", "E9Melhoa2OwvFrEMTJguCHaoeK1t8URWbuGJSstw-cM", true},
		{"abc", challengeOf("abc"), false}, {verifier[1:], challengeOf(verifier[1:]), false}, {strings.Repeat("z", 129), challengeOf(strings.Repeat("z", 129)), false}, {verifier[1:] + "+", challengeOf(verifier[1:] + "+"), false}, {verifier + " ", challengeOf(verifier + " "), false},
		{verifier, verifier, false}, {challengeOf(verifier), challengeOf(verifier), false}, {verifier, strings.ToLower(challengeOf(verifier)), false}, {verifier, challengeOf(verifier) + "A", false}, {verifier, strings.Repeat("A", 43), false},
	} {
		b := newBench(t, config(), 1)
		r := codeRecord(id(1), "web", 5, "read")
		r.Challenge = c.challenge
		b.commit(r)
		b.push(2)
		want := refused("invalid_grant")
		if c.isGood {
			want = given(id(2), "read")
		}
		b.must(want, redeem(6, basic("web"), with(asking(1), "code_verifier", c.shown)))
	}
}

// TestLifeOfACode: to its last tick and no longer, at the ends of all that can be.
func TestLifeOfACode(t *testing.T) {
	for _, life := range []int{1, 2, 10, api.MaxLife} {
		for _, at := range []int{0, 1, 5, 1 << 35, api.MaxNow} {
			c := config()
			c.CodeLife = life
			ready := func() *bench {
				b := newBench(t, c, 1)
				b.commit(codeRecord(id(1), "web", at, "read"))
				b.push(2)
				return b
			}
			for _, now := range []int{0, at - 1, at, at + life/2, at + life - 1} {
				if now >= 0 && now < at+life && now <= api.MaxNow {
					ready().must(given(id(2), "read"), redeem(now, basic("web"), asking(1)))
				}
			}
			for _, now := range []int{math.MinInt, -1 << 41, -1, api.MaxNow + 1, api.MaxNow + api.MaxLife - 1} {
				if now < at+life {
					b := ready()
					b.must(failure(api.ErrArg), redeem(now, basic("web"), asking(1)))
					b.must(failure(api.ErrDry), redeem(now, basic("web"), asking(1)))
				}
			}
			b := ready()
			for _, now := range []int{at + life, at + life + 1, api.MaxNow + api.MaxLife, math.MaxInt} {
				b.must(refused("invalid_grant"), redeem(now, basic("web"), asking(1)))
			}
			if got, _ := b.store.Code(id(1)); got.Used || b.source.Left() != 1 {
				t.Errorf("P17.3: behind its end the code is %+v", got)
			}
		}
	}
}

// TestTimeIsTakenAsItIs: a time outside of what can be kept is told by Commit alone, where there is something to keep.
func TestTimeIsTakenAsItIs(t *testing.T) {
	for _, now := range []int{math.MinInt, -1, api.MaxNow + 1, math.MaxInt} {
		b := newBench(t, config(), 1)
		b.family(1, 2, 3, "web", "read")
		b.code(4, "web", "offline_access")
		b.must(refused("invalid_client"), redeem(now, "", asking(4)))
		b.must(refused("invalid_request"), redeem(now, basic("web"), nil))
		b.must(refused("invalid_grant"), redeem(now, basic("web"), asking(9)))
		b.must(refused("invalid_grant"), redeem(now, basic("web"), asking(1))) // the burning has no time
		if got, _ := b.store.Code(id(1)); !got.Burned {
			t.Errorf("P17.2: at %d the code is %+v", now, got)
		}
		b.must(done(), revoke(now, basic("web"), pairs("token", id(2))))
		b.must(inactive, introspect(now, basic("web"), pairs("token", id(2))))
		if now > 0 {
			continue
		}
		b.must(failure(api.ErrDry), redeem(now, basic("web"), asking(4)))
		b.push(5)
		b.must(failure(api.ErrDry), redeem(now, basic("web"), asking(4)))
		b.push(5, 6)
		b.must(failure(api.ErrArg), redeem(now, basic("web"), asking(4)))
		b.push(5, 5)
		b.must(failure(api.ErrArg), redeem(now, basic("web"), asking(4))) // what may not be is told ahead of what is known
		b.must(failure(api.ErrDry), redeem(6, basic("web"), asking(4)))
		b.push(5, 6)
		b.must(givenBoth(id(5), id(6), "offline_access"), redeem(0, basic("web"), asking(4)))
	}
}

// TestShownAgain: the second time burns the code, whatever comes with it, and whether it still lives or not; further times write nothing.
func TestShownAgain(t *testing.T) {
	for _, c := range []call{
		redeem(6, basic("web"), asking(1)), redeem(1000, basic("web"), asking(1)), redeem(math.MinInt, basic("web"), asking(1)), redeem(math.MaxInt, basic("web"), asking(1)),
		redeem(6, basic("web"), with(asking(1), "redirect_uri", "x")), redeem(6, basic("web"), with(asking(1), "code_verifier", "x")), redeem(6, "", and(asking(1), "client_id", "web", "client_secret", "pw")),
	} {
		b := newBench(t, config(), 2)
		b.code(1, "web", "offline_access", "read")
		b.push(2, 3, 4, 5)
		b.must(givenBoth(id(2), id(3), "offline_access read"), redeem(5, basic("web"), asking(1)))
		b.must(told("web", "ann", "offline_access read", 5), introspect(6, basic("svc"), pairs("token", id(2))))
		lies := look(b.disk)
		b.must(refused("invalid_grant"), redeem(6, basic("svc"), asking(1))) // it is not its own
		b.must(answer{isActive: true}, active(6, id(2)))
		b.mustHold(lies)
		b.must(refused("invalid_grant"), c)
		b.mustHold(lies, []api.Record{burnedRecord(id(1))})
		b.must(refused("invalid_grant"), c.at(1))
		b.mustHold(lies, []api.Record{burnedRecord(id(1))})
		b.must(inactive, introspect(6, basic("svc"), pairs("token", id(2))))
		b.must(answer{}, active(6, id(2)))
		if b.source.Left() != 2 {
			t.Errorf("P17.3: %d draws are left", b.source.Left())
		}
	}
}

// TestTokenOnAFullDisk: the code is used and its tokens are there, or nothing of it.
func TestTokenOnAFullDisk(t *testing.T) {
	for _, scopes := range [][]string{{"read"}, {"offline_access", "read"}} {
		tx := []api.Record{redeemedRecord(id(1)), tokenRecord(id(10), id(1), "web", 6, scopes...)}
		want := given(id(10), "read")
		if len(scopes) == 2 {
			tx = append(tx, refreshRecord(id(11), id(1), "web", 6, scopes...))
			want = givenBoth(id(10), id(11), "offline_access read")
		}
		full(t, func(room int) *bench {
			lies := frame([]api.Record{codeRecord(id(1), "web", 5, scopes...)})
			b := benchOn(t, config(), 1, lies, len(lies)+room)
			b.push(10, 11)
			return b
		}, redeem(6, basic("web"), asking(1)), want, tx...)
	}
}

// TestBurningOnAFullDisk: the answer is the error, and the tokens count on.
func TestBurningOnAFullDisk(t *testing.T) {
	b := newBench(t, config(), 1)
	b.family(1, 2, 3, "web", "read")
	lies := look(b.disk)
	full(t, func(room int) *bench {
		b := benchOn(t, config(), 1, lies, len(lies)+room)
		b.must(answer{isActive: true}, active(7, id(2)))
		return b
	}, redeem(7, basic("web"), asking(1)), refused("invalid_grant"), burnedRecord(id(1)))
	b = benchOn(t, config(), 1, lies, len(lies))
	b.must(failure(api.ErrFull), redeem(7, basic("web"), asking(1)))
	b.must(told("web", "ann", "read", 6), introspect(7, basic("web"), pairs("token", id(2))))
}

// TestTokenThatDies: the code is used and its tokens are there, or nothing of it; so with the burning.
func TestTokenThatDies(t *testing.T) {
	for _, scopes := range [][]string{{"read"}, {"offline_access", "read"}} {
		tx := []api.Record{redeemedRecord(id(1)), tokenRecord(id(10), id(1), "web", 6, scopes...)}
		if len(scopes) == 2 {
			tx = append(tx, refreshRecord(id(11), id(1), "web", 6, scopes...))
		}
		dying(t, func() *bench {
			b := newBench(t, config(), 1)
			b.code(1, "web", scopes...)
			b.push(10, 11)
			return b
		}, redeem(6, basic("web"), asking(1)), tx...)
	}
	dying(t, func() *bench {
		b := newBench(t, config(), 1)
		b.family(1, 2, 3, "web", "read")
		return b
	}, redeem(7, basic("web"), asking(1)), burnedRecord(id(1)))
}

// TestTheSameRequestBehindADeath: it gets the token if nothing lasted; else the code is burned, and the token that nobody saw does not count.
func TestTheSameRequestBehindADeath(t *testing.T) {
	for _, keep := range []int{0, 1, 159, 160, plenty} {
		b := newBench(t, config(), 1)
		b.code(1, "web", "read")
		b.push(10, 11, 12)
		b.counts = false
		b.disk.Arm(1, keep)
		b.must(failure(api.ErrDead), redeem(6, basic("web"), asking(1)))
		b.disk.Revive()
		b.must(failure(api.ErrDead), redeem(6, basic("web"), asking(1))) // the store stays dead
		b.boot()
		if keep < 160 {
			b.must(given(id(12), "read"), redeem(6, basic("web"), asking(1)))
			b.must(answer{isActive: true}, active(6, id(12)))
		} else {
			b.must(answer{isActive: true}, active(6, id(10)))
			b.must(refused("invalid_grant"), redeem(6, basic("web"), asking(1)))
		}
		for _, lost := range []byte{10, 11} {
			b.must(answer{}, active(6, id(lost)))
		}
	}
}
