package bearer_test

import (
	"fmt"
	"math"
	"math/rand"
	"runtime"
	"slices"
	"strings"
	"sync"
	"testing"

	"usher/api"
	"usher/bearer"
)

// spoil writes a list full, its spare room too.
func spoil(list []string) {
	list = list[:cap(list)]
	for i := range list {
		list[i] = "written over"
	}
	_ = append(list, "more")
}

// TestWhatIsHandedInStays looks at the spare room behind the lists too.
func TestWhatIsHandedInStays(t *testing.T) {
	random := rand.New(rand.NewSource(5))
	for range 3000 {
		q := aRequest(random)
		fields := append(slices.Clone(q.Fields), pairs("authorization", "Bearer abc", "x", "y")...)
		need := append(aNeed(random), "r", "\"", "x")
		answer := append(anAnswer(random, 5), flag("active", true), number("exp", 3))
		fieldsBefore, needBefore, answerBefore := slices.Clone(fields), slices.Clone(need), slices.Clone(answer)
		b := newBench(t, oneOf(random, 0, 10))
		for range 2 {
			q.Fields = fields[:len(fields)-random.Intn(3)]
			_, _ = bearer.Find(q)
			b.guard.Check(5, q, need[:len(need)-random.Intn(4)], func(string) []api.Member { return answer[:len(answer)-random.Intn(3)] })
			q = bearing("abc")
		}
		if !slices.Equal(fields, fieldsBefore) || !slices.Equal(need, needBefore) || !slices.Equal(answer, answerBefore) {
			t.Fatalf("P22.8: of %+v, %q, %+v is left %+v, %q, %+v", fieldsBefore, needBefore, answerBefore, fields, need, answer)
		}
	}
}

// TestNothingIsKept writes over all that was handed in, and looks at what is remembered.
func TestNothingIsKept(t *testing.T) {
	g, err := bearer.New(10)
	if err != nil {
		t.Fatal(err)
	}
	want := letIn("ann", "web", "a", "b")
	answer, need := anns(100, "b a"), []string{"a", "b"}
	q := bearing("abc")
	if got := g.Check(5, q, need, func(string) []api.Member { return answer }); !isSame(got, want) {
		t.Errorf("P22.8: Check = %+v", got)
	}
	clear(answer)
	answer = append(answer, flag("active", false))
	spoil(need)
	clear(q.Fields)
	if got := g.Check(6, bearing("abc"), []string{"b"}, nil); !isSame(got, want) {
		t.Errorf("P22.8: behind what was handed in is written over Check = %+v", got)
	}
	if g.Held(6) != 1 {
		t.Errorf("P22.8: Held = %d", g.Held(6))
	}
}

// TestListsAreNew writes each list full that was handed out, and looks at the others.
func TestListsAreNew(t *testing.T) {
	for _, life := range []int{0, 10} {
		for _, scopes := range [][]string{{"a"}, {"a", "b"}, strings.Fields("a b c d e f g h i j k l m n o p")} {
			g, err := bearer.New(life)
			if err != nil {
				t.Fatal(err)
			}
			var got []api.Access
			for now := range 30 {
				a := g.Check(now, bearing("abc"), nil, func(string) []api.Member { return anns(100, strings.Join(scopes, " ")) })
				if !slices.Equal(a.Scopes, scopes) {
					t.Errorf("P22.8: behind lists that were written full Check answers %q, want %q", a.Scopes, scopes)
				}
				got = append(got, a)
				if now%2 == 0 {
					spoil(a.Scopes)
				}
			}
			for now := 1; now < 30; now += 2 {
				if !slices.Equal(got[now].Scopes, scopes) {
					t.Errorf("P22.8: a list is %q behind others that were written full, want %q", got[now].Scopes, scopes)
				}
			}
		}
	}
}

// TestAskAnswersTheSameList: an ask may use one list for all its answers.
func TestAskAnswersTheSameList(t *testing.T) {
	list := make([]api.Member, 0, 8)
	ask := func(token string) []api.Member {
		list = append(list[:0], flag("active", true), text("username", "of "+token), text("scope", token+" r"))
		return list
	}
	g, err := bearer.New(10)
	if err != nil {
		t.Fatal(err)
	}
	for round := range 2 {
		for _, token := range []string{"a", "b", "c", "a", "z"} {
			want := letIn("of "+token, "", token, "r")
			slices.Sort(want.Scopes)
			if got := g.Check(5, bearing(token), nil, ask); !isSame(got, want) {
				t.Errorf("P22.8: in the round %d Check = %+v, want %+v", round, got, want)
			}
		}
	}
}

func heapInUse() uint64 {
	runtime.GC()
	var stats runtime.MemStats
	runtime.ReadMemStats(&stats)
	return stats.HeapAlloc
}

// TestNoMoreIsKeptThanIsNeeded: of long texts only the pieces stay that are remembered, and of what is dropped nothing.
func TestNoMoreIsKeptThanIsNeeded(t *testing.T) {
	const size, spare = 1 << 16, 4 << 20
	g, err := bearer.New(10)
	if err != nil {
		t.Fatal(err)
	}
	before := heapInUse()
	for i := range 3 * most {
		token := fmt.Sprint("t", i)
		long := "x" + strings.Repeat(" ", size) + "web" + token
		answer := active(text("scope", strings.Repeat("r"+token+" ", size/8)+"w"), text("username", long[size+1:]), text("client_id", long[size+1:size+4]))
		a := g.Check(5, authorized("Bearer"+strings.Repeat(" ", size)+token), nil, func(string) []api.Member { return answer })
		if want := letIn("web"+token, "web", "r"+token, "w"); !isSame(a, want) {
			t.Fatalf("P22.3: Check = %+v, want %+v", a, want)
		}
	}
	if after := heapInUse(); after > before+spare {
		t.Errorf("LANGUAGE.md, 8: of %d tokens %d bytes are kept", g.Held(5), after-before)
	}
	if g.Held(5) != most {
		t.Errorf("P22.5: Held = %d", g.Held(5))
	}
}

// TestGuardsAtTheSameTime makes right and wrong calls by turns, many at a time, each with a guard of its own.
func TestGuardsAtTheSameTime(t *testing.T) {
	var calls sync.WaitGroup
	for worker := range 8 {
		calls.Go(func() {
			random := rand.New(rand.NewSource(int64(worker)))
			g, err := bearer.New(10)
			if err != nil {
				t.Error(err)
				return
			}
			m := model{life: 10}
			for now := range 2000 {
				q, need, answer := bearing(tokens(random.Intn(30), 1)[0]), aNeed(random), anAnswer(random, now)
				want, _ := m.check(now, q, need, answer)
				if got := g.Check(now, q, need, func(string) []api.Member { return answer }); !isSame(got, want) {
					t.Errorf("P22.3: Check = %+v, want %+v", got, want)
				}
				if g.Held(now) != m.held(now) {
					t.Errorf("P22.5: Held(%d) = %d, want %d", now, g.Held(now), m.held(now))
				}
			}
		})
	}
	calls.Wait()
}

// TestSameRunSameAnswers: what goes first hangs on no map's order.
func TestSameRunSameAnswers(t *testing.T) {
	run := func() (held []int) {
		b := newBench(t, 1000)
		for i, token := range tokens(0, 2*most) {
			b.guard.Check(i, bearing(token), nil, func(string) []api.Member { return active(number("exp", 300+i*7%900)) })
		}
		for i, token := range tokens(0, 2*most) {
			if b.guard.Check(most, bearing(token), nil, nil).Status == 200 {
				held = append(held, i)
			}
		}
		return held
	}
	want := run()
	for range 10 {
		if got := run(); !slices.Equal(got, want) {
			t.Errorf("P0.2: the same run remembers %v and %v", got, want)
		}
	}
}

// TestWhateverIsGiven: no call panics, and each ends.
func TestWhateverIsGiven(t *testing.T) {
	long := strings.Repeat("\xff", 1<<16)
	g, err := bearer.New(1 << 30)
	if err != nil {
		t.Fatal(err)
	}
	for _, s := range []string{"", "\x00", "?", "=", "&", "%", everyByte(), long, strings.Repeat("=", 1<<16), strings.Repeat("access_token=a&", 1<<12), strings.Repeat(" ", 1<<16)} {
		for _, q := range []api.Request{{}, {Method: s, Target: s, Fields: pairs(s, s), Body: s, Minor: -1}, get("/r?"+s, "Authorization", "Bearer "+s), request("POST", s, s, "Content-Type", form), request("POST", s, s, "Content-Type", s, "Authorization", s), bearing(s), get("/r", "Authorization", "Bearer"+s)} {
			mustFindAsModel(t, q)
			for _, now := range []int{math.MinInt, -1, 0, 5, last, math.MaxInt} {
				for _, answer := range [][]api.Member{nil, {{}}, {{Name: s, Kind: math.MinInt, Text: s, Num: math.MaxInt, Flag: true}}, active(text("scope", s), text("username", s), number("exp", math.MaxInt)), active(number("exp", math.MinInt))} {
					g.Check(now, q, []string{s, s}, func(string) []api.Member { return answer })
					g.Check(now, q, nil, nil)
				}
				g.Held(now)
			}
			g.Forget(s)
		}
	}
}
