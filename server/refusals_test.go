package server_test

import (
	"math"
	"testing"

	"usher/api"
)

// A writer is a request that changes what is kept, on a bench that prepared has made: its answer, the transaction, and how many draws it takes.
type writer struct {
	name  string
	q     api.Request
	want  api.Reply
	draws []byte
	tx    []api.Record
}

// prepared: ann's session 1, a family of app (the code 2, its token 3 and its refresh token 4), another one whose refresh token 7 was turned into 8 and 9, and a code 10 that is not used; ann allows app to read, and offline.
func prepared(t *testing.T) *bench {
	t.Helper()
	b := newBench(t, config())
	sid := b.begin("ann", 1)
	b.family(sid, 2, 3, 4)
	b.family(sid, 5, 6, 7)
	b.push(8, 9)
	b.must(tokens(id(8), id(9), "offline_access read"), 8, renewing(id(7)))
	b.allow(sid, 10, "offline_access read")
	return b
}

// writers are all that write, one for each transaction that there is.
func writers() []writer {
	sid := id(1)
	burned := func(code byte) []api.Record { return []api.Record{{Kind: api.RecBurned, ID: id(code)}} }
	given := func(kind int, drawn, code byte) api.Record {
		return api.Record{Kind: kind, ID: id(drawn), User: "ann", Client: "app", Code: id(code), Scopes: []string{"offline_access", "read"}, At: 9}
	}
	return []writer{
		{"login", login("bob", "wp"), entered("/", id(20)), []byte{20}, []api.Record{{Kind: api.RecSession, ID: id(20), User: "bob", At: 9}}},
		{"logout", by(sid, logout()), left, nil, []api.Record{{Kind: api.RecEnded, ID: sid}}},
		{"authorize", by(sid, authorize(question("read"))), redirect(address + "?code=" + id(20) + "&state=s+1"), []byte{20}, []api.Record{codeRecord(id(20), "ann", 9, "read")}},
		{"consent", deciding(sid, question("read write"), "allow", "grant:write", "yes"), redirect(address + "?code=" + id(20) + "&state=s+1"), []byte{20}, []api.Record{consentRecord("ann", "app", 9, "write"), codeRecord(id(20), "ann", 9, "write")}},
		{"withdraw", withdrawing(sid, "app"), redirect("/"), nil, []api.Record{{Kind: api.RecWithdrawn, User: "ann", Client: "app"}}},
		{"token", redeeming(id(10)), tokens(id(20), id(21), "offline_access read"), []byte{20, 21}, []api.Record{{Kind: api.RecRedeemed, ID: id(10)}, given(api.RecToken, 20, 10), given(api.RecRefresh, 21, 10)}},
		{"renew", renewing(id(4)), tokens(id(20), id(21), "offline_access read"), []byte{20, 21}, []api.Record{{Kind: api.RecTurned, ID: id(4)}, given(api.RecToken, 20, 2), given(api.RecRefresh, 21, 2)}},
		{"token again", redeeming(id(2)), errorObject(400, "invalid_grant"), nil, burned(2)},
		{"renew again", renewing(id(7)), errorObject(400, "invalid_grant"), nil, burned(5)},
		{"revoke", revoking(id(3)), objectOf(200, nil), nil, []api.Record{{Kind: api.RecRevoked, ID: id(3)}}},
		{"revoke a refresh token", revoking(id(4)), objectOf(200, nil), nil, burned(2)},
	}
}

// told is a status with a word, as the writer's path tells it.
func (w writer) told(status int, word string) api.Reply { return wordAt(pathOf(w.q), status, word) }

func pathOf(q api.Request) string {
	for at := range len(q.Target) {
		if q.Target[at] == '?' {
			return q.Target[:at]
		}
	}
	return q.Target
}

// eachWriter hands out a bench for each writer and each number of bytes that are to be left on its disk; every second request closes its connection.
func eachWriter(t *testing.T, room func(w writer) []int, do func(b *bench, w writer, room int)) {
	t.Helper()
	lies := look(prepared(t).disk)
	for _, w := range writers() {
		for n, left := range room(w) {
			w.q.Close = n%2 == 1
			do(benchOn(t, config(), lies, len(lies)+left), w, left)
		}
	}
}

// alwaysRoom: each writer twice, with room for all.
func alwaysRoom(writer) []int { return []int{plenty, plenty} }

// TestWriters: what they are answered and write, if nothing fails.
func TestWriters(t *testing.T) {
	eachWriter(t, alwaysRoom, func(b *bench, w writer, _ int) {
		b.push(w.draws...)
		b.mustWrite(w.want, 9, w.q, w.tx...)
		if b.source.Left() != 0 {
			t.Errorf("layer 19: %s leaves %d draws", w.name, b.source.Left())
		}
	})
}

// TestAFullDisk: 503, as long as a byte of room is missing; then all is as ever.
func TestAFullDisk(t *testing.T) {
	all := func(w writer) (list []int) {
		for room := range len(frame(w.tx)) + 1 {
			list = append(list, room)
		}
		return list
	}
	eachWriter(t, all, func(b *bench, w writer, room int) {
		b.push(w.draws...)
		if room == len(frame(w.tx)) {
			b.mustWrite(w.want, 9, w.q, w.tx...)
			return
		}
		b.mustKeep(w.told(503, "temporarily_unavailable"), 9, w.q)
		if b.source.Left() != 0 {
			t.Errorf("P19.6: %s leaves %d draws behind a full disk", w.name, b.source.Left())
		}
		b.mustKeep(strangers, 9, getting("/"))
	})
}

// TestNoDraw: 500, as long as one is missing; those that were there are used up.
func TestNoDraw(t *testing.T) {
	eachWriter(t, alwaysRoom, func(b *bench, w writer, _ int) {
		for n := range len(w.draws) {
			b.push(w.draws[:n]...)
			b.mustKeep(w.told(500, "server_error"), 9, w.q)
			if b.source.Left() != 0 {
				t.Errorf("P19.6: %s leaves %d draws", w.name, b.source.Left())
			}
		}
		b.push(w.draws...)
		b.mustWrite(w.want, 9, w.q, w.tx...)
	})
}

// TestADrawThatIsKnown: of a session, a code, a token, a refresh token, or, where two are drawn, of the other one.
func TestADrawThatIsKnown(t *testing.T) {
	eachWriter(t, alwaysRoom, func(b *bench, w writer, _ int) {
		for n := range w.draws {
			for _, known := range []byte{1, 2, 3, 4, 10} {
				b.push(w.draws[:n]...)
				b.push(known)
				b.mustKeep(w.told(500, "server_error"), 9, w.q)
			}
		}
		if len(w.draws) == 2 {
			b.push(20, 20)
			b.mustKeep(w.told(500, "server_error"), 9, w.q)
		}
		b.push(w.draws...)
		b.mustWrite(w.want, 9, w.q, w.tx...)
	})
}

// TestTimesThatAreNone: what would be kept with its time is refused; what has none is done. (At a time above MaxNow no session lives and no code.)
func TestTimesThatAreNone(t *testing.T) {
	timed := map[string]bool{"login": true, "authorize": true, "consent": true, "token": true, "renew": true, "renew again": true}
	eachWriter(t, alwaysRoom, func(b *bench, w writer, _ int) {
		for _, now := range []int{-1, math.MinInt} {
			b.push(w.draws...)
			if timed[w.name] {
				b.mustKeep(w.told(500, "server_error"), now, w.q)
			} else if now == -1 {
				b.mustWrite(w.want, now, w.q, w.tx...)
			}
			for b.source.Left() > 0 { // the draws that renew does not come to
				b.source.Fresh(nil)
				b.model.source.Fresh(nil)
			}
		}
	})
	eachWriter(t, alwaysRoom, func(b *bench, w writer, _ int) {
		b.push(20, 21)
		for _, now := range []int{api.MaxNow + 1, math.MaxInt} {
			switch w.name {
			case "login", "renew", "renew again":
				b.push(20, 21)
				b.mustKeep(w.told(500, "server_error"), now, w.q)
			case "authorize":
				b.mustKeep(toLogin(w.q.Target), now, w.q)
			case "consent", "withdraw":
				b.mustKeep(redirect("/login"), now, w.q)
			case "logout":
				b.mustKeep(left, now, w.q)
			case "token":
				b.mustKeep(errorObject(400, "invalid_grant"), now, w.q)
			default:
				b.must(w.want, now, w.q)
			}
		}
	})
}

// TestTheLastTime: at 0 and at MaxNow all may be kept.
func TestTheLastTime(t *testing.T) {
	for _, now := range []int{0, api.MaxNow} {
		b := newBench(t, config())
		b.push(1, 2, 3, 4, 5, 6)
		b.must(entered("/", id(1)), now, login("ann", "pw"))
		b.must(redirect(address+"?code="+id(2)+"&state=s+1"), now, deciding(id(1), question("offline_access"), "allow", "grant:offline_access", "yes"))
		b.must(tokens(id(3), id(4), "offline_access"), now, redeeming(id(2)))
		b.must(tokens(id(5), id(6), "offline_access"), now, renewing(id(4)))
		b.must(active("ann", "offline_access", now), now, introspecting(id(5)))
	}
}

// TestADiskThatDies at each operation of a Commit, with each number of bytes kept: nothing goes out, and what is kept behind it is what was kept, or that with all that the request does.
func TestADiskThatDies(t *testing.T) {
	lies := look(prepared(t).disk)
	for _, w := range writers() {
		size := len(frame(w.tx))
		for operation := range 2 {
			for keep := -1; keep <= size+1; keep++ {
				b := benchOn(t, config(), lies, plenty)
				before := b.store.State()
				w.q.Close = keep%2 == 0
				b.push(w.draws...)
				b.arm(operation, keep)
				b.mustDie(9, w.q)
				if !isSameState(b.store.State(), before) {
					t.Fatalf("P19.6: %s that died has changed what is kept", w.name)
				}
				b.push(20, 21)
				b.mustDie(9, w.q) // the disk is dead
				b.disk.Revive()
				b.model.disk.Revive()
				b.push(20, 21)
				b.mustDie(9, w.q) // and the store, until it is opened anew
				b.mustKeep(strangers, 9, getting("/"))
				if !b.boot() {
					t.Fatal("P19.6: a second operation has died")
				}
				if state := b.store.State(); isSameState(state, before) != (keep < size) {
					t.Fatalf("W4: %s died with %d bytes of %d kept; %+v became %+v", w.name, keep, size, before, state)
				}
			}
		}
	}
}

// TestADeadDisk: whatever does not write is answered as ever.
func TestADeadDisk(t *testing.T) {
	b := benchOn(t, config(), look(prepared(t).disk), plenty)
	b.crash(0)
	sid := id(1)
	b.mustKeep(homeOf(sid, "ann", "app", "offline_access read"), 9, by(sid, getting("/")))
	b.mustKeep(loginPage("/"), 9, getting("/login"))
	b.mustKeep(denied("/"), 9, login("ann", "no"))
	b.mustKeep(left, 9, logout())
	b.mustKeep(consentOf(sid, "app", "ann", question("write"), "write"), 9, by(sid, authorize(question("write"))))
	b.mustKeep(errorPage(403, "forged"), 9, by(sid, sending("/withdraw", "client_id=app")))
	b.mustKeep(redirect("/"), 9, withdrawing(sid, "web"))
	b.mustKeep(active("ann", "offline_access read", 7), 9, introspecting(id(3)))
	b.mustKeep(errorObject(400, "invalid_grant"), 9, redeeming(id(9)))
	b.mustKeep(errorPage(500, "server_error"), 9, login("ann", "pw")) // no draw: the disk is not asked
	b.push(20)
	b.mustDie(9, login("ann", "pw"))
}

// TestALoginThatFailsIsNoGuess: what the store or the source refuses leaves no wrong password behind.
func TestALoginThatFailsIsNoGuess(t *testing.T) {
	b := newBench(t, braked(2, 50))
	for range 4 {
		b.must(denied("/"), 5, login("ann", "no"))
		b.must(errorPage(500, "server_error"), 5, login("ann", "pw"))
	}
	b.must(denied("/"), 5, login("ann", "no"))
	b.must(denied("/"), 5, login("ann", "no"))
	b.must(locked(50), 5, login("ann", "pw"))
}
