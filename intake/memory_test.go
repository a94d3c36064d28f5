package intake_test

import (
	"math/rand"
	"slices"
	"strings"
	"sync"
	"testing"

	"usher/api"
	"usher/intake"
)

// spoil writes a list of fields full, its spare room too.
func spoil(fields []api.Pair) {
	fields = fields[:cap(fields)]
	for i := range fields {
		fields[i] = api.Pair{Name: "written", Value: "over"}
	}
	_ = append(fields, api.Pair{Name: "one", Value: "more"})
}

func TestWhatIsHandedOutIsNew(t *testing.T) {
	texts := []string{sound, coded + "2\r\nab\r\n0\r\n\r\n", "POST / HTTP/1.1\r\nHost: x\r\nA: b\r\nC: d\r\nContent-Length: 2\r\n\r\nab"}
	for _, s := range texts {
		for _, step := range []int{1, 7, 1000} {
			p := little.begin(t)
			want := little.expected(s).requests[0]
			var kept []api.Request
			for range 6 {
				for _, piece := range slices.Collect(slices.Chunk([]byte(s), step)) {
					p.Feed(string(piece))
					if q, number := p.Next(); number == 1 {
						kept = append(kept, q)
						spoil(q.Fields)
					}
				}
			}
			p.Feed(s)
			q, number := p.Next()
			if number != 1 || !same(q, want) || len(kept) != 6 {
				t.Errorf("P7.10: behind lists that were written full comes %+v, %d, want %+v", q, number, want)
			}
			for _, old := range kept {
				spoil(old.Fields)
			}
			if !same(q, want) {
				t.Errorf("P7.10: who writes an older list full changes a newer one: %+v", q)
			}
		}
	}
}

// TestListsOfWaitingRequestsAreNew takes several requests out of one chunk.
func TestListsOfWaitingRequestsAreNew(t *testing.T) {
	p := little.begin(t)
	p.Feed(strings.Repeat(sound, 3))
	first, _ := p.Next()
	spoil(first.Fields)
	second, _ := p.Next()
	if !slices.Equal(second.Fields, pairs("host", "x")) {
		t.Errorf("P7.10: the second list is %v", second.Fields)
	}
	second.Fields[0].Value = "mine"
	third, _ := p.Next()
	if !slices.Equal(third.Fields, pairs("host", "x")) || second.Fields[0].Value != "mine" {
		t.Errorf("P7.10: the lists are %v, %v", second.Fields, third.Fields)
	}
}

// TestBodiesStayAsTheyWere: what comes later does not change what was handed out.
func TestBodiesStayAsTheyWere(t *testing.T) {
	p := little.begin(t)
	p.Feed(coded + "2\r\nab\r\n0\r\n\r\n")
	first, _ := p.Next()
	p.Feed("POST /second HTTP/1.1\r\nHost: y\r\nContent-Length: 5\r\n\r\nfghij" + coded + "3\r\nklm\r\n0\r\n\r\n")
	second, _ := p.Next()
	p.Next()
	p.Feed(strings.Repeat("z", 150))
	if first.Body != "ab" || first.Target != "/" || second.Body != "fghij" || second.Target != "/second" || second.Fields[0].Value != "y" {
		t.Errorf("P7.10: what was handed out is now %+v, %+v", first, second)
	}
}

// TestWhatIsHandedInStaysAsItWas looks at the spare room behind the lists too.
func TestWhatIsHandedInStaysAsItWas(t *testing.T) {
	for count := 1; count < 5; count++ {
		room, sizes := make([]api.Pair, count+5), make([]int, count+5)
		for i := range room {
			room[i] = api.Pair{Name: "host" + strings.Repeat("s", i), Value: "v"}
			sizes[i] = i
		}
		before, sizesBefore := slices.Clone(room), slices.Clone(sizes)
		q := api.Request{Method: "GET", Target: "/", Minor: 1, Fields: room[:count], Body: "abc"}
		if _, err := intake.Chunked(q, sizes[:count]); err != nil {
			t.Errorf("P7.8: %v", err)
		}
		intake.Write(q)
		q.Body = ""
		if _, err := intake.Write(q); err != nil {
			t.Errorf("P7.7: %v", err)
		}
		if !slices.Equal(room, before) || !slices.Equal(sizes, sizesBefore) {
			t.Errorf("P0.5: of %v, %v is left %v, %v", before, sizesBefore, room, sizes)
		}
	}
}

// TestCallsKeepNothing makes right and wrong calls by turns, many at a time.
func TestCallsKeepNothing(t *testing.T) {
	var calls sync.WaitGroup
	for range 8 {
		calls.Go(func() {
			for range 50 {
				mustNotWrite(t, plain(2))
				mustWrite(t, plain(1), "GET /a?b HTTP/1.1\r\nhost: x\r\na: B c\r\n\r\n")
				mustNotChunk(t, plain(0), []int{1})
				mustChunk(t, plain(1), []int{1}, "GET /a?b HTTP/1.1\r\nhost: x\r\na: B c\r\ntransfer-encoding: chunked\r\n\r\n0\r\n\r\n")
				mustRefuse(t, "P7.1", little, coded+"x\r\n", 400)
				mustTake(t, "P7.1", little, coded+"1\r\nx\r\n0\r\n\r\n", withBody("x"))
			}
		})
	}
	calls.Wait()
}

// TestLongStreams would not end in its time if a byte were looked at again and again.
func TestLongStreams(t *testing.T) {
	head := headOf(65536)
	for _, s := range []string{head, coded + "0;" + strings.Repeat("a", 65530) + "\r\n\r\n", coded + "0\r\n" + strings.Repeat("a:\r\n", 16382) + "b\r\n", coded + strings.Repeat("1\r\n\n\r\n", 20000)} {
		p := most.begin(t)
		for i := range len(s) {
			p.Feed(s[i : i+1])
			p.Next()
		}
		want := most.expected(s)
		if p.Left() != want.left {
			t.Errorf("P7.9: of %d bytes are left %d, want %d", len(s), p.Left(), want.left)
		}
	}
	const many = 200000
	p := little.begin(t)
	p.Feed(strings.Repeat(sound, many))
	for i := range many {
		if q, number := p.Next(); number != 1 || q.Target != "/" || p.Left() != (many-1-i)*len(sound) {
			t.Fatalf("P7.2: request %d of many: %+v, %d, and %d are left", i, q, number, p.Left())
		}
	}
	p = little.begin(t)
	for i := range many {
		p.Feed(sound + "\r\n")
		if _, number := p.Next(); number != 1 || p.Left() != 2 {
			t.Fatalf("P7.2: request %d of many: %d, and %d are left", i, number, p.Left())
		}
	}
}

func TestLongWriting(t *testing.T) {
	const size = 1 << 21
	long := strings.Repeat("a", size)
	for _, change := range []func(*api.Request){
		func(q *api.Request) { q.Method = long },
		func(q *api.Request) { q.Target = "/" + long },
		func(q *api.Request) { q.Fields[1].Value = long },
		func(q *api.Request) { q.Fields = append(q.Fields, make([]api.Pair, size)...) },
		func(q *api.Request) { q.Body = long },
	} {
		q := plain(1)
		change(&q)
		mustNotWrite(t, q)
		mustNotChunk(t, q, make([]int, size))
	}
	q := plain(1)
	q.Body = "abc"
	mustChunk(t, q, make([]int, size), "GET /a?b HTTP/1.1\r\nhost: x\r\na: B c\r\ntransfer-encoding: chunked\r\n\r\n3\r\nabc\r\n0\r\n\r\n")
}

// TestEveryCallEnds plays bytes of any kind, and those at which the rules turn.
func TestEveryCallEnds(t *testing.T) {
	defer func() {
		if r := recover(); r != nil {
			t.Errorf("P0.1: a call panics: %v", r)
		}
	}()
	random := rand.New(rand.NewSource(11))
	for round := range 20000 {
		l := limits{1 + random.Intn(100), random.Intn(20)}
		for _, s := range []string{noise(random, everyByte(), round%120), noise(random, "\r\n\r\n\r\n: /;0a", round%60), coded + noise(random, "\r\n\r\n0123;:aF", round%40)} {
			mustPlayAsExpected(t, "P0.1", l, s)
			q := api.Request{Method: s, Target: s, Minor: int(random.Uint64()), Fields: pairs(s, s), Body: s}
			mustNotWrite(t, q)
			mustNotChunk(t, q, []int{int(random.Uint64()), round})
		}
	}
}
