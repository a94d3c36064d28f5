package pkce_test

import (
	"math"
	"math/rand"
	"runtime"
	"strings"
	"sync"
	"testing"

	"usher/api"
	"usher/pkce"
)

// TestCallsKeepNothing makes right and wrong calls by turns, many at a time, each with a source of its own.
func TestCallsKeepNothing(t *testing.T) {
	verifier := strings.Repeat("v", 43)
	challenge := standardS256(verifier)
	secret := mustSeal(t, "password", "salt", 2)
	var calls sync.WaitGroup
	for worker := range 8 {
		calls.Go(func() {
			s := pkce.NewSource()
			for range 200 {
				mustProof(t, verifier, true)
				mustProof(t, verifier[1:], false)
				mustS256(t, "", standardS256(""))
				mustS256(t, verifier, challenge)
				mustSame(t, verifier, challenge, false)
				mustSame(t, verifier, verifier, true)
				mustMatch(t, verifier, challenge, true)
				mustMatch(t, challenge, verifier, false)
				mustNotSeal(t, "password", "", 2)
				mustSeal(t, "password", "salt", 2)
				mustPassword(t, "passwore", secret, 2, false)
				mustPassword(t, "password", secret, 2, true)
				mustPush(t, s, drawOf(worker), nil, 1)
				mustFresh(t, s, nil, idOf(drawOf(worker)), nil, 0)
			}
		})
	}
	calls.Wait()
}

// TestCallsLeaveSourcesAlone: no call but a source's own changes what waits in it.
func TestCallsLeaveSourcesAlone(t *testing.T) {
	s := pkce.NewSource()
	mustPush(t, s, drawOf(1), nil, 1)
	pkce.S256(drawOf(2))
	pkce.Seal(drawOf(2), drawOf(2), 1)
	pkce.Password(drawOf(2), api.Secret{Salt: drawOf(2), Digest: drawOf(2)}, 1)
	pkce.NewSource().Push(drawOf(2))
	mustFresh(t, s, nil, idOf(drawOf(1)), nil, 0)
}

// TestUsedDrawsAreNotKept takes so many draws that a source which kept them would be seen.
func TestUsedDrawsAreNotKept(t *testing.T) {
	const count, spare = 1 << 20, 8 << 20
	s := pkce.NewSource()
	for range 1023 {
		s.Push(drawOf(1))
	}
	before := heapInUse()
	draw, id := drawOf(2), idOf(drawOf(2))
	for i := range count {
		if err := s.Push(draw); err != nil {
			t.Fatalf("P10.7: draw %d: %v", i, err)
		}
		if got, err := s.Fresh(nil); err != nil || i >= 1023 && got != id {
			t.Fatalf("P10.8: draw %d: %q, %v", i, got, err)
		}
	}
	if after := heapInUse(); after > before+spare {
		t.Errorf("P10.7: behind %d draws %d bytes more are held", count, after-before)
	}
	if s.Left() != 1023 {
		t.Errorf("P10.7: %d wait", s.Left())
	}
}

func heapInUse() uint64 {
	runtime.GC()
	var stats runtime.MemStats
	runtime.ReadMemStats(&stats)
	return stats.HeapAlloc
}

// TestEveryCallEnds plays texts of any bytes and sizes, and numbers far outside.
func TestEveryCallEnds(t *testing.T) {
	defer func() {
		if r := recover(); r != nil {
			t.Errorf("P10.10: a call panics: %v", r)
		}
	}()
	random := rand.New(rand.NewSource(111))
	s := pkce.NewSource()
	list := []string{"", "\x00", everyByte(), strings.Repeat("a", 1<<20), strings.Repeat("\xff", 1<<20)}
	for size := range 140 {
		list = append(list, noise(random, everyByte(), size), noise(random, plain, size))
	}
	for _, a := range list {
		mustS256(t, a, standardS256(a))
		mustProof(t, a, wholeProof.MatchString(wide(a)))
		for _, b := range list {
			mustSame(t, a, b, a == b)
			pkce.Match(a, b)
		}
		for _, rounds := range []int{math.MinInt, -1, 0, 1, 2, 1001, math.MaxInt} {
			pkce.Seal(a, a, rounds)
			pkce.Seal(a, "salt", rounds)
			pkce.Password(a, api.Secret{Salt: a, Digest: a}, rounds)
		}
		s.Push(a)
		s.Fresh(nil)
	}
}
