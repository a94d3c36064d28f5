package journal_test

import (
	"math/rand"
	"runtime"
	"slices"
	"strings"
	"sync"
	"testing"
	"time"

	"usher/api"
	"usher/journal"
)

// spoil writes a list of entries full, its spare room too.
func spoil(list []api.Entry) {
	list = list[:cap(list)]
	for i := range list {
		list[i] = api.Entry{Conn: -1, User: "written over"}
	}
	_ = append(list, api.Entry{Conn: -2})
}

// busy is a script of all kinds of steps.
func busy() []api.Step {
	return []api.Step{
		draw(1), bytesOn(0, get("/a", "Referer: r")+login("/")), tick(3), bytesOn(1, get("/half")[:9]), arm(1), draw(2), bytesOn(0, get("/b")+login("/")+get("/c")),
		bytesOn(2, nonsense), hangUp(2), bytesOn(2, request("HEAD", "/", "", "User-Agent: u")), crash(), bytesOn(1, get("/d", basic("ann", "x"))),
	}
}

// busyLog is what busy leads to, but for the bytes.
func busyLog() []api.Entry {
	return []api.Entry{
		{At: 5, Method: "GET", Target: "/a", Minor: 1, Status: 404, Referer: "r"}, logged(0, 5), got(0, 8, "/b", 404), refused(2, 8, 400),
		{Conn: 2, At: 8, Method: "HEAD", Target: "/", Minor: 1, Status: 200, Agent: "u"}, {Conn: 1, User: "ann", At: 8, Method: "GET", Target: "/d", Minor: 1, Status: 404},
	}
}

func TestBusyRun(t *testing.T) { mustLog(t, 5, busy(), busyLog()...) }

// TestWhatIsHandedInStays looks at the spare room behind the lists too.
func TestWhatIsHandedInStays(t *testing.T) {
	random := rand.New(rand.NewSource(9))
	for range 200 {
		var room []api.Entry
		for range 12 {
			room = append(room, anEntry(random))
		}
		if random.Intn(2) == 0 {
			room[random.Intn(12)].Status = 0
		}
		before := slices.Clone(room)
		_, _ = journal.Lines(room[:random.Intn(12)])
		if !slices.Equal(room, before) {
			t.Errorf("P21.10: of %+v is left %+v", before, room)
		}
	}
	steps := busy()
	before := slices.Clone(steps)
	for n := range len(steps) + 1 {
		for _, text := range []string{config, "x"} {
			for _, epoch := range []int{5, -1} {
				_, _ = journal.Entries(epoch, text, steps[:n])
			}
		}
		if !slices.Equal(steps, before) {
			t.Errorf("P21.10: of %+v is left %+v", before, steps)
		}
	}
}

// TestListsAreNew writes each list full that was handed out, and looks at the others.
func TestListsAreNew(t *testing.T) {
	log, err := journal.Lines([]api.Entry{first(), bare(), first()})
	if err != nil {
		t.Fatal(err)
	}
	for name, call := range map[string]func() ([]api.Entry, error){
		"ReadLines": func() ([]api.Entry, error) { return journal.ReadLines(log) },
		"Entries":   func() ([]api.Entry, error) { return journal.Entries(5, config, busy()) },
	} {
		one, err := call()
		if err != nil || len(one) == 0 {
			t.Fatalf("P21.10: %s answers %v, %v", name, one, err)
		}
		want := slices.Clone(one)
		two, _ := call()
		spoil(one)
		three, _ := call()
		if !slices.Equal(two, want) || !slices.Equal(three, want) {
			t.Errorf("P21.10: behind a list that was written full %s answers %+v and %+v, want %+v", name, two, three, want)
		}
		spoil(two)
		if !slices.Equal(three, want) {
			t.Errorf("P21.10: two lists of %s have memory in common", name)
		}
	}
}

// TestCallsKeepNothing makes right and wrong calls by turns, many at a time.
func TestCallsKeepNothing(t *testing.T) {
	want, err := journal.Entries(5, config, busy())
	if err != nil {
		t.Fatal(err)
	}
	var calls sync.WaitGroup
	for range 8 {
		calls.Go(func() {
			for i := range 50 {
				mustBeNoDate(t, "Sun, 06 Nov 1995 08:49:37 GMT", i)
				mustBeSecond(t, fixText(i), 0, i)
				mustBeSecond(t, oldText(784111777), i, 784111777)
				mustBeSecond(t, unixText(784111777+i), i, 784111777+i)
				mustBeNoLine(t, firstLine+" ")
				mustBeLine(t, first(), firstLine)
				mustBeNoLog(t, firstLine)
				mustBeLog(t, []api.Entry{first(), bare()}, firstLine+"\n"+bareLine+"\n")
				_, _ = journal.Entries(-1, config, busy())
				_, _ = journal.Entries(5, config, busy()[:7])
				if got, err := journal.Entries(5, config, busy()); !slices.Equal(got, want) || err != nil {
					t.Errorf("P21.10: the same call answers %+v, %v, want %+v", got, err, want)
				}
			}
		})
	}
	calls.Wait()
}

// TestGoroutinesHaveEnded: P0.2.
func TestGoroutinesHaveEnded(t *testing.T) {
	before := runtime.NumGoroutine()
	for range 50 {
		_, _ = journal.Entries(5, config, busy())
		_, _ = journal.Entries(5, "x", busy())
	}
	for range 100 {
		if runtime.NumGoroutine() <= before {
			return
		}
		time.Sleep(10 * time.Millisecond)
	}
	t.Errorf("P0.2: %d goroutines run, %d ran ahead", runtime.NumGoroutine(), before)
}

// TestWhateverIsGiven: no call panics, and each ends.
func TestWhateverIsGiven(t *testing.T) {
	random := rand.New(rand.NewSource(10))
	for range 20000 {
		s := noise(random, oneOf(random, everyByte(), firstLine, "Sunday, 06-Nov-94 08:49:37 GMT"), random.Intn(100))
		mustBeNoLine(t, s)
		mustBeAsModel(t, s, random.Intn(maxSeconds+1))
		if s != "" {
			mustBeNoLog(t, s)
		}
		d := api.Date{Year: random.Int() - random.Int(), Month: random.Intn(30) - 9, Day: random.Intn(60) - 9, Hour: random.Intn(60) - 9, Minute: random.Intn(90) - 9, Second: random.Intn(90) - 9, Weekday: random.Intn(20) - 9}
		mustBeNone(t, d)
	}
	for range 300 {
		var steps []api.Step
		for range random.Intn(30) {
			steps = append(steps, api.Step{Kind: random.Intn(9) - 1, Conn: random.Intn(20) - 2, N: random.Intn(9) - 2, M: random.Intn(9) - 2, Data: oneOf(random, get("/"), login("/"), get("/")[:9], "\r\n", strings.Repeat("x", 32), noise(random, everyByte(), random.Intn(40)))})
		}
		if list, err := journal.Entries(random.Intn(maxSeconds+1), config, steps); err != nil {
			t.Errorf("P21.8: %v", err)
		} else {
			mustBeKept(t, list)
		}
	}
}
