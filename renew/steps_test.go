package renew_test

import (
	"math"
	"strings"
	"testing"

	"usher/api"
)

// A situation is a request for a renewal, and all on which its answer hangs.
type situation struct {
	now    int
	auth   string
	params []api.Pair
	others []api.Record // what others have written behind the family, one behind the other
	draws  []byte
	spare  int // bytes of room
	isDead bool
}

// A fault is what makes one of P18.1's steps apply. These have a hundred times their number there: 350 is the second half of step 3, 1250 the disk's part of step 12.
type fault struct {
	step int
	want answer
	do   func(s *situation)
}

// wellMade is a request that gets a token and a refresh token: of web, for the refresh token 3, with the draws 10 and 11.
func wellMade() *situation {
	return &situation{now: 14, auth: web(), params: showing(id(3)), draws: []byte{10, 11}, spare: 1000}
}

// bench is a bench in that situation. It knows the family 1, 2, 3 of web, the family 20, 21, 22 of svc, one of app, 24, 25, 26, and a session 23.
func (s *situation) bench(t *testing.T) *bench {
	t.Helper()
	b := newBench(t, config(), 1)
	b.family(1, 2, 3, "web", 5, all...)
	b.family(20, 21, 22, "svc", 5, all...)
	b.family(24, 25, 26, "app", 5, all...)
	b.commit(api.Record{Kind: api.RecSession, ID: id(23), User: "ann", At: 1})
	for _, r := range s.others {
		if err := b.store.Commit([]api.Record{r}); err != nil && err != api.ErrLost { // two faults may want the same
			t.Fatalf("a test's transaction is refused: %v", err)
		}
	}
	lies := look(b.disk)
	b = benchOn(t, config(), 1, lies, len(lies)+s.spare)
	b.push(s.draws...)
	if s.isDead {
		b.counts = false
		b.disk.Crash(0)
	}
	return b
}

func (s *situation) call() call { return renewing(s.now, s.auth, s.params) }

func set(name string, values ...string) func(s *situation) {
	return func(s *situation) { s.params = with(s.params, name, values...) }
}

func from(auth string, texts ...string) func(s *situation) {
	return func(s *situation) {
		s.auth, s.params = auth, and(with(with(s.params, "client_id"), "client_secret"), texts...)
	}
}

func written(records ...api.Record) func(s *situation) {
	return func(s *situation) { s.others = append(s.others, records...) }
}

func drawn(draws ...byte) func(s *situation) { return func(s *situation) { s.draws = draws } }
func at(now int) func(s *situation)          { return func(s *situation) { s.now = now } }

// faultsOfRequests are those of steps 1 to 4.
func faultsOfRequests() []fault {
	var list []fault
	for _, now := range []int{-1, math.MinInt, api.MaxNow + 1, math.MaxInt} {
		list = append(list, fault{100, failure(api.ErrArg), at(now)})
	}
	for _, do := range []func(*situation){
		from(""), from("Bearer x"), from(basicOf("web", "no")), from(basicOf("app", "")), from("", "client_id", "web"), from("", "client_id", "web", "client_secret", "no"), from("", "client_id", "app", "client_secret", "x"), from("", "client_id", "nobody"),
	} {
		list = append(list, fault{200, refused("invalid_client"), do})
	}
	for _, do := range []func(*situation){
		from(web(), "client_secret", "pw"), from(web(), "client_id", "app"), from("", "client_id", "web", "client_id", "web", "client_secret", "pw"), from("", "client_id", "web", "client_secret", "pw", "client_secret", "pw"),
	} {
		list = append(list, fault{200, refused("invalid_request"), do})
	}
	for _, values := range [][]string{nil, {""}, {"refresh_token", "refresh_token"}, {"refresh_token", "", "password"}, {"authorization_code", "refresh_token"}} {
		list = append(list, fault{300, refused("invalid_request"), set("grant_type", values...)})
	}
	for _, values := range [][]string{{"authorization_code"}, {"password"}, {"Refresh_token"}, {"refresh_token "}, {"", "refresh"}, {"\x00"}} {
		list = append(list, fault{350, refused("unsupported_grant_type"), set("grant_type", values...)})
	}
	for _, values := range [][]string{nil, {""}, {"", ""}, {id(3), id(3)}, {id(3), "", "x"}, {"x", id(3)}} {
		list = append(list, fault{400, refused("invalid_request"), set("refresh_token", values...)})
	}
	for _, values := range [][]string{{"read", "read"}, {"read", "write"}, {"read", "", "x"}, {"x", "read"}, {"read", "read", "read"}} {
		list = append(list, fault{400, refused("invalid_request"), set("scope", values...)})
	}
	return list
}

// faultsOfRefreshes are those of steps 5 to 8.
func faultsOfRefreshes() []fault {
	var list []fault
	for _, shown := range []string{id(9), "x", id(1), id(2), id(21), id(22), id(23), id(26), id(3)[:42], id(3) + "A", strings.ToLower(id(3)), " " + id(3), "\x00"} {
		list = append(list, fault{500, refused("invalid_grant"), set("refresh_token", shown)})
	}
	for _, do := range []func(*situation){from(svc()), from("", "client_id", "svc", "client_secret", "s3cret"), from("", "client_id", "app"), from("", "client_id", "spa")} {
		list = append(list, fault{500, refused("invalid_grant"), do})
	}
	for _, records := range [][]api.Record{
		{burnedRecord(id(1))}, withdrawal("web"), {turnedRecord(id(3)), burnedRecord(id(1))}, {burnedRecord(id(1)), turnedRecord(id(3))},
	} {
		list = append(list, fault{600, refused("invalid_grant"), written(records...)})
	}
	for _, records := range [][]api.Record{
		{turnedRecord(id(3))}, {turnedRecord(id(3)), tokenRecord(id(30), id(1), "web", 9, "read"), refreshRecord(id(31), id(1), "web", 9, all...)},
	} {
		list = append(list, fault{700, refused("invalid_grant"), written(records...)})
	}
	for _, now := range []int{1005, 1006, 1 << 39, api.MaxNow} {
		list = append(list, fault{800, refused("invalid_grant"), at(now)})
	}
	return list
}

// faults are those of all steps, in the order of the steps.
func faults() []fault {
	list := append(faultsOfRequests(), faultsOfRefreshes()...)
	for _, scope := range []string{"admin", "read  write", " read", "read ", " ", "read\twrite", "read admin", "Read", "rea", "reads", "read,write", "\"", "é", "\x00", strings.Repeat("s", 33), strings.Join(strings.Split("abcdefghijklmnopq", ""), " ")} {
		list = append(list, fault{900, refused("invalid_scope"), set("scope", scope)})
	}
	list = append(list, fault{1000, failure(api.ErrDry), drawn()})
	for _, known := range []byte{1, 2, 3, 20, 21, 22, 23, 26} {
		list = append(list,
			fault{1000, failure(api.ErrTaken), drawn(known)}, fault{1000, failure(api.ErrTaken), drawn(known, 11)},
			fault{1100, failure(api.ErrTaken), drawn(10, known)}, fault{1100, failure(api.ErrTaken), drawn(10, known, 11)},
		)
	}
	return append(list,
		fault{1100, failure(api.ErrDry), drawn(10)},
		fault{1200, failure(api.ErrTaken), drawn(10, 10)}, fault{1200, failure(api.ErrTaken), drawn(10, 10, 11)},
		fault{1250, failure(api.ErrFull), func(s *situation) { s.spare = 0 }}, fault{1250, failure(api.ErrFull), func(s *situation) { s.spare = 200 }},
		fault{1250, failure(api.ErrDead), func(s *situation) { s.isDead = true }},
	)
}

// TestSteps: each fault alone, and ahead of each of those of later steps.
func TestSteps(t *testing.T) {
	list := faults()
	for i, first := range list {
		s := wellMade()
		first.do(s)
		b := s.bench(t)
		before := b.store.State()
		b.must(first.want, s.call())
		if first.step != 700 && !isSameState(before, b.store.State()) {
			t.Errorf("P18.1: the step %d has changed the store", first.step)
		}
		if first.step < 1000 && b.source.Left() != 2 {
			t.Errorf("P18.1: the step %d has used up a draw", first.step)
		}
		for _, later := range list[i+1:] {
			if later.step == first.step || first.step == 700 && later.step == 1250 {
				continue // a burning needs the disk, too
			}
			s := wellMade()
			later.do(s)
			first.do(s)
			s.bench(t).must(first.want, s.call())
		}
	}
}

// TestTheWholeStep: the members and the three records, in their order.
func TestTheWholeStep(t *testing.T) {
	s := wellMade()
	b := s.bench(t)
	lies := look(b.disk)
	b.must(given(id(10), id(11), "offline_access read write"), s.call())
	b.mustHold(lies, []api.Record{
		{Kind: api.RecTurned, ID: id(3)},
		{Kind: api.RecToken, ID: id(10), User: "ann", Client: "web", Code: id(1), Scopes: all, At: 14},
		{Kind: api.RecRefresh, ID: id(11), User: "ann", Client: "web", Code: id(1), Scopes: all, At: 14},
	})
	if got, ok := b.store.Token(id(10)); !ok || got.Revoked {
		t.Errorf("P18.1: the token is %+v, %v", got, ok)
	}
	if got, ok := b.store.Refresh(id(3)); !ok || !got.Used {
		t.Errorf("P18.1: the old refresh token is %+v, %v", got, ok)
	}
	if got, ok := b.store.Refresh(id(11)); !ok || got.Used {
		t.Errorf("P18.1: the new refresh token is %+v, %v", got, ok)
	}
}

// TestDraws: as many are used up as were asked for, the draws behind them wait on.
func TestDraws(t *testing.T) {
	for _, c := range []struct {
		draws []byte
		left  int
		want  answer
	}{
		{nil, 0, failure(api.ErrDry)}, {[]byte{10}, 0, failure(api.ErrDry)}, {[]byte{3}, 0, failure(api.ErrTaken)}, {[]byte{3, 10, 11}, 2, failure(api.ErrTaken)}, {[]byte{10, 3}, 0, failure(api.ErrTaken)}, {[]byte{10, 1, 11}, 1, failure(api.ErrTaken)}, {[]byte{10, 10}, 0, failure(api.ErrTaken)}, {[]byte{10, 10, 11}, 1, failure(api.ErrTaken)},
		{[]byte{10, 11}, 0, given(id(10), id(11), "offline_access read write")}, {[]byte{11, 10, 12, 13}, 2, given(id(11), id(10), "offline_access read write")},
	} {
		s := wellMade()
		s.draws = c.draws
		b := s.bench(t)
		before := b.store.State()
		b.must(c.want, s.call())
		if b.source.Left() != c.left {
			t.Errorf("P18.1: of the draws %v are left %d", c.draws, b.source.Left())
		}
		if c.want.err != nil && !isSameState(before, b.store.State()) {
			t.Errorf("P18.1: with the draws %v the store has changed", c.draws)
		}
	}
}

// TestPeople: what is given out is for the refresh token's client and user; who asks may be public, or have shown its secret in either way.
func TestPeople(t *testing.T) {
	for _, c := range []struct {
		client, auth string
		params       []api.Pair
	}{
		{"app", "", pairs("client_id", "app")}, {"web", web(), nil}, {"web", web(), pairs("client_id", "web")}, {"web", "", pairs("client_id", "web", "client_secret", "pw")}, {"spa", "", pairs("client_id", "spa", "client_secret", "")},
	} {
		for _, user := range []string{"ann", "b:o", "~"} {
			b := newBench(t, config(), 1)
			tx := []api.Record{codeRecord(id(1), c.client, 5, "read"), redeemedRecord(id(1)), refreshRecord(id(3), id(1), c.client, 5, "read")}
			tx[0].User, tx[2].User = user, user
			b.commit(tx...)
			b.push(10, 11)
			b.must(given(id(10), id(11), "read"), renewing(7, c.auth, append(showing(id(3), "code", id(1), "token", "x"), c.params...)))
			if got, ok := b.store.Token(id(10)); !ok || got.User != user || got.Client != c.client || got.Code != id(1) || got.At != 7 {
				t.Errorf("P18.1: the store has %+v, %v", got, ok)
			}
			if got, ok := b.store.Refresh(id(11)); !ok || got.User != user || got.Client != c.client || got.Code != id(1) || got.At != 7 {
				t.Errorf("P18.1: the store has %+v, %v", got, ok)
			}
		}
	}
}
