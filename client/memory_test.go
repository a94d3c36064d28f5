package client_test

import (
	"fmt"
	"math"
	"math/rand"
	"runtime"
	"slices"
	"strings"
	"sync"
	"testing"

	"usher/api"
	"usher/client"
)

// spoil writes a list full, its spare room too.
func spoil[T any](list []T, with T) {
	list = list[:cap(list)]
	for i := range list {
		list[i] = with
	}
	_ = append(list, with)
}

var wrong = api.Pair{Name: "written", Value: "over"}

// TestWhatIsHandedInStays looks at the spare room behind the lists too.
func TestWhatIsHandedInStays(t *testing.T) {
	for size := range 6 {
		scopes := []string{"write", "read write", "read", "write", "z"}
		before := slices.Clone(scopes)
		c, err := client.New("app", "pw", home, scopes[:size])
		if !slices.Equal(scopes, before) || (err == nil) != (size > 0) {
			t.Errorf("P24.9: of %q New leaves %q, %v", before, scopes, err)
		}
		if c == nil {
			continue
		}
		b := &bench{t: t, client: c, model: newModel("app", "pw", home, before[:size])}
		b.toCode(1, "k")
		b.redeem()
		fields := pairs("Content-Type", "application/json", "x", "y", "z", "a")
		fieldsBefore := slices.Clone(fields)
		r := giving("t", 10, "write", "r")
		r.Fields = fields[:size%3]
		b.must(b.take(1, r), nil)
		if !slices.Equal(fields, fieldsBefore) {
			t.Errorf("P24.9: of %q Take leaves %q", fieldsBefore, fields)
		}
	}
}

// TestNoListIsKept writes over all lists that were handed in.
func TestNoListIsKept(t *testing.T) {
	scopes := append(make([]string, 0, 10), "write", "read")
	c, err := client.New("app", "", home, scopes)
	if err != nil {
		t.Fatal(err)
	}
	spoil(scopes, "written")
	b := &bench{t: t, client: c, model: newModel("app", "", home, []string{"read", "write"})}
	b.toCode(1, "k")
	b.redeem()
	b.must(b.take(1, giving("t", 10, "read write", "")), nil)
	b.mustHave(1, "t", "read", "write")
	if target, _ := b.begin(draw(1), draw(2)); !strings.Contains(target, "&scope=read+write&") {
		t.Errorf("P24.9: behind a list that was written over Begin = %q", target)
	}
}

// TestListsAreNew writes each list full that was answered, and looks at the others and at what the client keeps.
func TestListsAreNew(t *testing.T) {
	for _, secret := range []string{"", "pw"} {
		b := newBenchOf(t, "app", secret, home, "read", "write")
		var requests, wanted []api.Request
		b.toToken(1, 1, giving("t", 10, "read write", "r"))
		for round := range 20 {
			b.toCode(3, "k")
			for _, request := range []func() (api.Request, error){b.redeem, b.renew, b.drop} {
				q, err := request()
				if err != nil {
					t.Fatal(err)
				}
				if round%2 == 0 {
					spoil(q.Fields, wrong)
					continue
				}
				kept := q
				kept.Fields = slices.Clone(q.Fields)
				requests, wanted = append(requests, q), append(wanted, kept)
			}
			list := b.client.Scopes()
			spoil(list, "written")
			b.mustHave(1, "t", "read", "write")
			b.begin(draw(3), draw(4))
			b.must(b.take(1, refusing(503, "e")), api.ErrDenied)
		}
		one, other := b.client.Scopes(), b.client.Scopes()
		spoil(one, "written")
		if !slices.Equal(other, []string{"read", "write"}) {
			t.Errorf("P24.9: behind a list that was written full the other one is %q", other)
		}
		for i := range requests {
			if !isSame(requests[i], wanted[i]) {
				t.Errorf("P24.9: behind others that were written full %s, want %s", told(requests[i]), told(wanted[i]))
			}
		}
		b.renew()
		b.must(b.take(1, giving("u", 10, "read", "")), nil)
		b.mustHave(1, "u", "read")
	}
}

// TestScopesThatWereAnsweredStay when another token comes.
func TestScopesThatWereAnsweredStay(t *testing.T) {
	b := newBench(t)
	b.toToken(1, 1, giving("t", 10, "read write", "r"))
	list := b.client.Scopes()
	b.renew()
	b.must(b.take(1, giving("t", 10, "write", "")), nil)
	b.drop()
	b.must(b.take(1, answer(200, "")), nil)
	if !slices.Equal(list, []string{"read", "write"}) {
		t.Errorf("P24.9: a list that was answered is now %q", list)
	}
}

func heapInUse() uint64 {
	runtime.GC()
	var stats runtime.MemStats
	runtime.ReadMemStats(&stats)
	return stats.HeapAlloc
}

// TestNoMoreIsKeptThanIsNeeded: of long texts only the pieces stay that matter.
func TestNoMoreIsKeptThanIsNeeded(t *testing.T) {
	const size, spare = 1 << 22, 1 << 20
	piece := func(s string) string { return (strings.Repeat("x", size) + s)[size:] }
	long := func(r api.Reply) api.Reply {
		r.Body = piece(r.Body + strings.Repeat(" ", size))
		return r
	}
	var clients []*client.Client
	before := heapInUse()
	for i := range 8 {
		c, err := client.New(piece("app"), piece("pw"), piece(home), []string{piece("read"), strings.Repeat("read ", 1<<20) + "write"})
		if err != nil {
			t.Fatal(err)
		}
		clients = append(clients, c)
		c.Begin(piece(draw(1)), piece(draw(2)))
		name := []string{"code", "error"}[i%2]
		if err := c.Return(piece(answerOf(home, name, "k", "state", letters(draw(1))))); err != nil {
			t.Fatal(err)
		}
		if i%4 == 0 {
			c.Redeem()
			if err := c.Take(1, long(giving("t", 10, strings.Repeat("read ", 1<<20)+"write", "r"))); err != nil {
				t.Fatal(err)
			}
		}
		if i == 4 {
			c.Renew()
			if err := c.Take(1, long(refusing(503, "e"))); err != api.ErrDenied {
				t.Fatal(err)
			}
		}
	}
	if after := heapInUse(); after > before+spare {
		t.Errorf("LANGUAGE.md, 8: of %d clients %d bytes are kept", len(clients), after-before)
	}
	runtime.KeepAlive(clients)
}

// TestLongRunsKeepNothing: a client that runs for long does not grow.
func TestLongRunsKeepNothing(t *testing.T) {
	const spare = 1 << 20
	c, err := client.New("app", "", home, []string{"read"})
	if err != nil {
		t.Fatal(err)
	}
	before := heapInUse()
	for now := range 3000 {
		c.Begin(draw(now), draw(now+1))
		if err := c.Return(answerOf(home, "code", fmt.Sprint(now, strings.Repeat("k", 1<<10)), "state", letters(draw(now)))); err != nil {
			t.Fatal(err)
		}
		c.Redeem()
		if err := c.Take(now, giving(fmt.Sprint(now, strings.Repeat("t", 1<<10)), 10, "read", "r")); err != nil {
			t.Fatal(err)
		}
	}
	if after := heapInUse(); after > before+spare {
		t.Errorf("LANGUAGE.md, 8: of 3000 codes %d bytes are kept", after-before)
	}
	runtime.KeepAlive(c)
}

// TestClientsAtTheSameTime plays runs by chance, many at a time, each with a client of its own.
func TestClientsAtTheSameTime(t *testing.T) {
	var calls sync.WaitGroup
	for worker := range 8 {
		calls.Go(func() {
			random := rand.New(rand.NewSource(int64(worker)))
			c, err := client.New("app", "", home, []string{"read", "write"})
			m := newModel("app", "", home, []string{"read", "write"})
			if err != nil {
				t.Error(err)
				return
			}
			for range 300 {
				n, now, r := random.Intn(9), random.Intn(99), aReply(random)
				c.Begin(draw(n), draw(n+1))
				m.begin(draw(n), draw(n+1))
				uri := answerOf(home, "code", "k", "state", letters(draw(random.Intn(9))))
				if got, want := c.Return(uri), m.back(uri); got != want {
					t.Errorf("P24.3: Return = %v, want %v", got, want)
				}
				want, wantErr := m.redeem()
				if got, err := c.Redeem(); !isSame(got, want) || err != wantErr {
					t.Errorf("P24.4: Redeem = %s, %v, want %s, %v", told(got), err, told(want), wantErr)
				}
				if got, want := c.Take(now, r), m.take(now, r); got != want {
					t.Errorf("P24.6: Take = %v, want %v", got, want)
				}
			}
		})
	}
	calls.Wait()
}

// TestWhateverIsGiven: no call panics, and each ends.
func TestWhateverIsGiven(t *testing.T) {
	texts := []string{"", "\x00", "app", home, "=", "%", "&&", everyByte(), strings.Repeat("\xff", 1<<12), strings.Repeat("/", 1<<12), strings.Repeat("{", 1<<12), strings.Repeat(`{"a":`, 1<<10), strings.Repeat("&=", 1<<12), strings.Repeat("%", 1<<12)}
	for _, s := range texts {
		for _, other := range texts {
			isMade(t, s, other, home, "read")
			isMade(t, "app", other, s, "read")
			isMade(t, "app", s, home, other)
			isMade(t, s, other, s, other, s)
		}
		b := newBenchOf(t, "app", s, home, "read")
		b.begin(s, draw(1))
		b.begin(draw(1), s)
		b.begin(draw(1), draw(2))
		b.back(s)
		b.back(home + "?" + s)
		b.back(home + "?code=" + s)
		b.back(home + s + "&state=" + letters(draw(1)))
		for _, now := range []int{math.MinInt, -1, 0, last, math.MaxInt} {
			for _, status := range []int{math.MinInt, 0, 200, 400, math.MaxInt} {
				b.toCode(1, "k"+s)
				b.redeem()
				b.take(now, answer(status, s))
				b.renew()
				b.take(now, api.Reply{Status: status, Body: s, Fields: pairs(s, s)})
				b.drop()
				b.take(now, answer(status, s))
				b.lookAt(now)
			}
		}
	}
}

// TestSameRunSameAnswers: a row of calls has one answer.
func TestSameRunSameAnswers(t *testing.T) {
	run := func() string {
		random := rand.New(rand.NewSource(5))
		c, err := client.New("app", "pw", home, []string{"write", "read"})
		var b strings.Builder
		fmt.Fprint(&b, err)
		for now := range 300 {
			fmt.Fprint(&b, c.Return(answerOf(home, "code", "k", "state", letters(draw(random.Intn(5))))))
			target, err := c.Begin(draw(random.Intn(5)), draw(now))
			fmt.Fprint(&b, target, err)
			for _, request := range []func() (api.Request, error){c.Redeem, c.Renew, c.Drop} {
				if random.Intn(2) == 0 {
					q, err := request()
					fmt.Fprint(&b, told(q), err)
				}
			}
			fmt.Fprint(&b, c.Take(now, aReply(random)), c.Scopes(), c.Failed())
		}
		return b.String()
	}
	want := run()
	for range 10 {
		if run() != want {
			t.Error("P0.2: the same run answers otherwise")
		}
	}
}
