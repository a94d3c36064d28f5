package reply_test

import (
	"math/rand"
	"slices"
	"strings"
	"sync"
	"testing"

	"usher/api"
	"usher/reply"
)

// spoil writes a list of fields full, its spare room too.
func spoil(fields []api.Pair) {
	fields = fields[:cap(fields)]
	for i := range fields {
		fields[i] = api.Pair{Name: "written", Value: "over"}
	}
	_ = append(fields, api.Pair{Name: "one", Value: "more"})
}

// TestWhatIsHandedInStaysAsItWas looks at the spare room behind the list too.
func TestWhatIsHandedInStaysAsItWas(t *testing.T) {
	for count := range 66 {
		for _, status := range []int{200, 204} {
			for _, name := range []string{"a", "Connection", ""} {
				room := numbered(count + 6)
				room[count/2].Name = name
				before := slices.Clone(room)
				r := api.Reply{Status: status, Fields: room[:count], Body: "abc"}
				reply.Render(r, false)
				reply.Render(r, true)
				if !slices.Equal(room, before) {
					t.Errorf("P8.5: of %v is left %v", before, room)
				}
			}
		}
	}
}

func TestWhatIsReadIsNew(t *testing.T) {
	for count := range 65 {
		r := ok(numbered(count), "abc")
		text := written(t, r)
		text += text
		one, n, _ := reply.Read(text)
		two, _, _ := reply.Read(text)
		next, _, _ := reply.Read(text[n:])
		for _, got := range []api.Reply{one, two, next} {
			if !same(got, r) {
				t.Errorf("P8.5: %s is read, want %s", short(got), short(r))
			}
			spoil(got.Fields)
		}
		again, _, _ := reply.Read(text)
		if !same(again, r) || text != written(t, r)+written(t, r) {
			t.Errorf("P8.5: behind lists that were written full is read %s", short(again))
		}
		spoil(r.Fields)
		if !slices.Equal(again.Fields, numbered(count)) {
			t.Errorf("P8.5: who writes the list that was rendered full changes the one that was read: %v", again.Fields)
		}
	}
}

// TestListsAreApart writes one list full and looks at the others.
func TestListsAreApart(t *testing.T) {
	text := written(t, ok(pairs("a", "b", "c", "d", "e", "f"), ""))
	lists := make([][]api.Pair, 4)
	for i := range lists {
		r, _, _ := reply.Read(text)
		lists[i] = r.Fields
	}
	spoil(lists[1])
	for _, i := range []int{0, 2, 3} {
		if !slices.Equal(lists[i], pairs("a", "b", "c", "d", "e", "f")) {
			t.Errorf("P8.5: list %d is now %v", i, lists[i])
		}
	}
}

// TestCallsKeepNothing makes right and wrong calls by turns, many at a time.
func TestCallsKeepNothing(t *testing.T) {
	fields := pairs("a", "b", "c", "")
	text := first + "a: b\r\nc: \r\nContent-Length: 2\r\nConnection: keep-alive\r\n\r\nhi"
	var calls sync.WaitGroup
	for range 8 {
		calls.Go(func() {
			for range 200 {
				mustNotRender(t, api.Reply{Status: 204, Fields: fields}, api.ErrArg)
				mustRender(t, ok(fields, "hi"), false, text)
				mustNotRender(t, ok(numbered(65), ""), api.ErrMany)
				mustRender(t, ok(fields, "hi"), true, text[:len(text)-2])
				mustNotRead(t, "P8.5", "\r\n\r\n", api.ErrText)
				mustRead(t, "P8.5", text, ok(fields, "hi"), len(text))
				mustNotRead(t, "P8.5", text[:40], api.ErrShort)
			}
		})
	}
	calls.Wait()
}

// TestLongTexts would not end in its time if a byte were looked at again and again.
func TestLongTexts(t *testing.T) {
	const size = 1 << 22
	for _, part := range []string{"\r", "\n", "\r\n", "\r\n\r", "a: b\r\n", ":", "a", " ", "Content-Length: 0\r\n", "\x00"} {
		long := strings.Repeat(part, size/len(part))
		for _, s := range []string{long, first + long, first + "a: " + long, first + "Content-Length: " + long} {
			for _, end := range []string{"", nothing, "\r\n" + nothing, "\r\n\r\n"} {
				reply.Read(s + end)
			}
		}
		reply.Render(ok(pairs(long, long), long[:1<<20]), false)
	}
	const many = 200000
	text := strings.Repeat(first+nothing, many)
	for i := range many {
		r, n, err := reply.Read(text)
		if r.Status != 200 || n != len(first+nothing) || err != nil {
			t.Fatalf("P8.4: answer %d of many is %s, %d, %v", i, short(r), n, err)
		}
		text = text[n:]
	}
}

// TestEveryCallEnds plays bytes of any kind, and those at which the rules turn.
func TestEveryCallEnds(t *testing.T) {
	defer func() {
		if r := recover(); r != nil {
			t.Errorf("P8.5: a call panics: %v", r)
		}
	}()
	random := rand.New(rand.NewSource(88))
	for round := range 20000 {
		for _, s := range []string{noise(random, everyByte(), round%120), noise(random, "\r\n\r\n: a0", round%60), first + noise(random, "\r\n: aC", round%30) + nothing} {
			mustReadAsExpected(t, "P8.5", s)
			mustRenderAsExpected(t, api.Reply{Status: int(random.Uint64()), Fields: pairs(s, s), Body: s})
			mustRenderAsExpected(t, api.Reply{Status: 200, Fields: pairs("a", s), Body: s, Close: round%2 == 0})
		}
		status := int(random.Uint64())
		if got := reply.Reason(status); got != phrases[status] {
			t.Errorf("P8.1: Reason(%d) = %q", status, got)
		}
	}
	grow("", []string{"\r", "\n", ":", " ", "a"}, 6, func(s string) {
		mustReadAsExpected(t, "P8.5", s)
		mustReadAsExpected(t, "P8.5", first+s+nothing)
		mustRenderAsExpected(t, ok(pairs(s, s), s))
	})
}
