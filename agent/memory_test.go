package agent_test

import (
	"fmt"
	"math"
	"math/rand"
	"reflect"
	"runtime"
	"slices"
	"strings"
	"sync"
	"testing"

	"usher/agent"
	"usher/api"
)

// spoil writes a list full, its spare room too.
func spoil[T any](list []T, with T) {
	list = list[:cap(list)]
	for i := range list {
		list[i] = with
	}
	_ = append(list, with)
}

var wrong = api.Pair{Name: "written", Value: "over"}

func spoilPage(p api.Page) {
	for _, f := range p.Forms[:cap(p.Forms)] {
		spoil(f.Inputs, hidden("written", "over"))
	}
	spoil(p.Forms, api.Form{Action: "/over"})
	spoil(p.Lines, "written over")
}

// fullPage is one with something in each of its lists.
func fullPage() api.Page {
	p := manyForms("/a", "/b", "/c")
	p.Lines = strings.Fields("one two three four five")
	p.Forms[1].Inputs = append(p.Forms[1].Inputs, line("user", "was"), box("b", "yes"))
	return p
}

// TestWhatIsHandedInStays looks at the spare room behind the lists too.
func TestWhatIsHandedInStays(t *testing.T) {
	random := rand.New(rand.NewSource(4))
	for range 2000 {
		r := aReply(random, 10)
		fields := append(slices.Clone(r.Fields), pairs("Set-Cookie", set("a", "1", -1), "Location", "/a", "x", "y")...)
		typed := pairs("user", "ann", "b", "yes", "user", "bob", "x", "y")
		fieldsBefore, typedBefore := slices.Clone(fields), slices.Clone(typed)
		b := newBenchAt(t, fullPage())
		if _, err := b.agent.Submit(1, 1, typed[:random.Intn(len(typed))]); err != nil {
			t.Fatal(err)
		}
		r.Fields = fields[:len(fields)-random.Intn(4)]
		if _, _, err := b.agent.Take(1, r); err != nil {
			t.Fatal(err)
		}
		b.agent.Page()
		if !slices.Equal(fields, fieldsBefore) || !slices.Equal(typed, typedBefore) {
			t.Fatalf("P23.9: of %q, %q is left %q, %q", fieldsBefore, typedBefore, fields, typed)
		}
	}
}

// TestNothingIsKept writes over all that was handed in.
func TestNothingIsKept(t *testing.T) {
	b := newBench(t)
	b.visit(1, "/")
	r := showing(fullPage(), "Set-Cookie", set("a", "1", -1), "Set-Cookie", set("b", "2", 9))
	b.stays(1, r)
	spoil(r.Fields, wrong)
	b.mustBeAt(fullPage())
	b.mustHave(1, "a", "1", "b", "2")
	typed := pairs("user", "ann")
	q, err := b.agent.Submit(1, 1, typed)
	spoil(typed, wrong)
	if want := post("/b", "a=1; b=2", "number=1&user=ann&b=yes"); !isSame(q, want) || err != nil {
		t.Errorf("P23.9: Submit = %+v, %v, want %+v", q, err, want)
	}
	b.submit(1, 1)
	r = sending("https://a/cb")
	b.isSentAway(1, r, "https://a/cb")
	spoil(r.Fields, wrong)
	b.mustBeNowhere("https://a/cb")
}

// TestListsAreNew writes each list full that was answered, and looks at the others and at what the agent keeps.
func TestListsAreNew(t *testing.T) {
	b := newBench(t)
	cookies := "a=1; b=2; c=3"
	b.visit(1, "/")
	b.stays(1, showing(fullPage(), "Set-Cookie", set("a", "1", -1), "Set-Cookie", set("b", "2", 9), "Set-Cookie", set("c", "3", 9)))
	var pages []api.Page
	var jars [][]api.Pair
	var requests []api.Request
	for round := range 20 {
		p, _ := b.agent.Page()
		q, err := b.agent.Visit(1, "/a")
		if err != nil || !isSame(q, get("/a", cookies)) {
			t.Fatalf("P23.9: behind lists that were written full Visit = %+v, %v", q, err)
		}
		form, err := b.agent.Submit(1, 1, nil)
		if err != nil || !isSame(form, post("/b", cookies, "number=1&user=was&b=yes")) {
			t.Fatalf("P23.9: behind lists that were written full Submit = %+v, %v", form, err)
		}
		jar := b.agent.Jar(1)
		if round%2 == 0 {
			spoilPage(p)
			spoil(jar, wrong)
			spoil(q.Fields, wrong)
			spoil(form.Fields, wrong)
		} else {
			pages, jars, requests = append(pages, p), append(jars, jar), append(requests, q)
		}
		b.mustBeAt(fullPage())
		b.mustHave(1, "a", "1", "b", "2", "c", "3")
	}
	for i := range pages {
		if !isSamePage(pages[i], fullPage()) || !slices.Equal(jars[i], pairs("a", "1", "b", "2", "c", "3")) || !isSame(requests[i], get("/a", cookies)) {
			t.Fatalf("P23.9: behind others that were written full %+v, %q, %+v", pages[i], jars[i], requests[i])
		}
	}
	b.visit(1, "/")
	q, _, err := b.agent.Take(1, sending("/x"))
	spoil(q.Fields, wrong)
	if again, _, againErr := b.agent.Take(1, sending("/y")); !isSame(again, get("/y", cookies)) || err != nil || againErr != nil {
		t.Errorf("P23.9: behind lists that were written full Take = %+v, %v, %v", again, err, againErr)
	}
}

// TestListsOfOnePage: to append to one list of a page changes no other one.
func TestListsOfOnePage(t *testing.T) {
	b := newBenchAt(t, fullPage())
	p, _ := b.agent.Page()
	for i, f := range p.Forms {
		_ = append(f.Inputs, hidden("written", "over"))
		spoil(f.Inputs[len(f.Inputs):], hidden("written", "over"))
		if i == 0 {
			spoil(f.Inputs, hidden("written", "over"))
		}
	}
	spoil(p.Lines, "written over")
	if want := fullPage(); !reflect.DeepEqual(p.Forms[1:], want.Forms[1:]) || p.Forms[0].Action != "/a" {
		t.Errorf("P23.9: the page's other lists are %+v", p.Forms)
	}
	b.mustBeAt(fullPage())
}

func heapInUse() uint64 {
	runtime.GC()
	var stats runtime.MemStats
	runtime.ReadMemStats(&stats)
	return stats.HeapAlloc
}

// TestNoMoreIsKeptThanIsNeeded: of long texts only the pieces stay that matter, and of what is over nothing.
func TestNoMoreIsKeptThanIsNeeded(t *testing.T) {
	const size, spare = 1 << 22, 1 << 20
	piece := func(s string) string { return (strings.Repeat("x", size) + s)[size:] }
	var agents []*agent.Agent
	before := heapInUse()
	for i := range 12 {
		a := agent.New()
		agents = append(agents, a)
		r := answer(200, "", "Set-Cookie", piece(set("sid", "x", -1)))
		switch i % 4 {
		case 1:
			r = answer(200, piece(htmlOf(loginPage())), "Content-Type", "text/html")
		case 2:
			r = sending(piece("https://a/cb"))
		case 3:
			r = answer(303, piece("body"), "Location", piece("/a"), "Content-Type", "text/html")
		}
		if _, err := a.Visit(1, piece("/")); err != nil {
			t.Fatal(err)
		}
		if _, _, err := a.Take(1, r); err != nil {
			t.Fatal(err)
		}
	}
	if after := heapInUse(); after > before+spare {
		t.Errorf("LANGUAGE.md, 8: of %d agents %d bytes are kept", len(agents), after-before)
	}
	runtime.KeepAlive(agents)
}

// TestCookiesThatAreOverGo: the jar of a browser that runs for long does not grow.
func TestCookiesThatAreOverGo(t *testing.T) {
	const spare = 1 << 20
	a := agent.New()
	before := heapInUse()
	for now := range 4000 {
		if _, err := a.Visit(now, "/"); err != nil {
			t.Fatal(err)
		}
		if _, _, err := a.Take(now, plainly("Set-Cookie", set(fmt.Sprint("c", now), strings.Repeat("x", 1<<10), 1))); err != nil {
			t.Fatal(err)
		}
	}
	if after := heapInUse(); after > before+spare {
		t.Errorf("LANGUAGE.md, 8: of %d cookies that are over %d bytes are kept", 4000, after-before)
	}
	if got := len(a.Jar(3999)); got != 1 {
		t.Errorf("P23.6: %d cookies last", got)
	}
}

// TestAgentsAtTheSameTime makes right and wrong calls by turns, many at a time, each with an agent of its own.
func TestAgentsAtTheSameTime(t *testing.T) {
	var calls sync.WaitGroup
	for worker := range 8 {
		calls.Go(func() {
			random := rand.New(rand.NewSource(int64(worker)))
			a, m := agent.New(), model{}
			for now := range 400 {
				target, r, form, typed := aPlace(random), aReply(random, 20), random.Intn(3), pairs(typing(random, m.page)...)
				want, wantErr := m.visit(now, target)
				if got, err := a.Visit(now, target); !isSame(got, want) || err != wantErr {
					t.Errorf("P23.2: Visit = %+v, %v, want %+v, %v", got, err, want, wantErr)
				}
				want, wantErr = m.submit(now, form, typed)
				if got, err := a.Submit(now, form, typed); !isSame(got, want) || err != wantErr {
					t.Errorf("P23.3: Submit = %+v, %v, want %+v, %v", got, err, want, wantErr)
				}
				want, wantKind, wantErr := m.take(now, r)
				if got, kind, err := a.Take(now, r); !isSame(got, want) || kind != wantKind || err != wantErr {
					t.Errorf("P23.4: Take = %+v, %d, %v, want %+v, %d, %v", got, kind, err, want, wantKind, wantErr)
				}
			}
		})
	}
	calls.Wait()
}

// TestSameRunSameAnswers: no answer hangs on a map's order.
func TestSameRunSameAnswers(t *testing.T) {
	run := func() string {
		a := agent.New()
		random := rand.New(rand.NewSource(5))
		var b strings.Builder
		for now := range 200 {
			q, err := a.Visit(now, "/")
			fmt.Fprint(&b, q, err)
			next, kind, err := a.Take(now, aReply(random, 40))
			fmt.Fprint(&b, next, kind, err, a.Jar(now+3), a.Where())
		}
		return b.String()
	}
	want := run()
	for range 10 {
		if run() != want {
			t.Error("P0.2: the same run answers otherwise")
		}
	}
}

// TestWhateverIsGiven: no call panics, and each ends.
func TestWhateverIsGiven(t *testing.T) {
	texts := []string{"", "\x00", "/", "=", "%", everyByte(), strings.Repeat("\xff", 1<<12), strings.Repeat("/", 1<<12), htmlOf(fullPage()), set("a", "b", 1), "text/html", strings.Repeat("<", 1<<12)}
	times := []int{math.MinInt, -1, 0, 5, 1 << 40, math.MaxInt}
	for _, s := range texts {
		b := newBenchAt(t, onePage(s, line("n", s), box("b", s)))
		for _, now := range times {
			b.visit(now, s)
			for _, form := range []int{math.MinInt, -1, 0, 1, math.MaxInt} {
				b.submit(now, form, s, s, "n", s, "b", s)
			}
			for _, status := range []int{math.MinInt, 200, 302, 303, math.MaxInt} {
				b.take(now, answer(status, s, s, s, "Set-Cookie", s, "Location", s))
				b.visit(now, "/")
				b.take(now, answer(status, s, "Content-Type", s))
				b.visit(now, "/")
				b.take(now, answer(status, s, "Content-Type", "text/html", "Set-Cookie", set("a", "b", math.MaxInt), "Set-Cookie", set("c", "d", 1)))
				b.look(times...)
			}
		}
	}
}
