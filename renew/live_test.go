package renew_test

import (
	"bytes"
	"math"
	"testing"

	"usher/api"
)

// TestLiveToTheLastTick at the ends of all that can be: now may be any number.
func TestLiveToTheLastTick(t *testing.T) {
	for _, life := range []int{1, 2, 1000, api.MaxLife} {
		for _, at := range []int{0, 1, 5, 1 << 35, api.MaxNow} {
			c := config()
			c.RefreshLife = life
			b := newBench(t, c, 1)
			b.family(1, 2, 3, "web", at, all...)
			for _, now := range []int{math.MinInt, -1 << 41, -1, 0, at - 1, at, at + life/2, at + life - 1} {
				b.mustLive(now, 3, now < at+life)
			}
			for _, now := range []int{at + life, at + life + 1, api.MaxNow + api.MaxLife, math.MaxInt} {
				b.mustLive(now, 3, false)
			}
		}
	}
}

// TestNoRefreshTokenDoesNotLive: nothing else that is kept does, nor what is not kept.
func TestNoRefreshTokenDoesNotLive(t *testing.T) {
	b := newBench(t, config(), 1)
	b.family(1, 2, 3, "web", 5, all...)
	b.commit(api.Record{Kind: api.RecSession, ID: id(4), User: "ann", At: 5})
	for _, now := range []int{math.MinInt, 0, 6, math.MaxInt} {
		for _, no := range []string{"", "x", id(1), id(2), id(4), id(9), id(3)[:42], id(3) + "A", " " + id(3), "\x00", "web"} {
			b.must(answer{}, living(now, no))
		}
	}
	b.mustLive(6, 3, true)
}

// TestWhatEndsALife: its use, and the end of its family, by whomever; not the end of a token, nor that of another family.
func TestWhatEndsALife(t *testing.T) {
	for _, c := range []struct {
		tx    []api.Record
		lives bool
	}{
		{[]api.Record{turnedRecord(id(3))}, false}, {[]api.Record{burnedRecord(id(1))}, false}, {[]api.Record{turnedRecord(id(3)), burnedRecord(id(1))}, false}, {withdrawal("web"), false},
		{[]api.Record{{Kind: api.RecRevoked, ID: id(2)}}, true}, {[]api.Record{burnedRecord(id(11))}, true}, {[]api.Record{turnedRecord(id(13))}, true}, {withdrawal("app"), true},
		{[]api.Record{refreshRecord(id(4), id(1), "web", 6, "read"), turnedRecord(id(4))}, true},
	} {
		b := newBench(t, config(), 2)
		b.family(1, 2, 3, "web", 5, all...)
		b.family(11, 12, 13, "app", 5, all...)
		b.mustLive(6, 3, true)
		b.commit(c.tx...)
		for _, now := range []int{math.MinInt, 0, 6, 1004} {
			b.mustLive(now, 3, c.lives)
			b.must(answer{holds: c.lives}, living(now, id(3)).at(1))
		}
	}
}

// TestLiveChangesNothing, on a disk that is alive or dead.
func TestLiveChangesNothing(t *testing.T) {
	b := newBench(t, config(), 1)
	b.family(1, 2, 3, "web", 5, all...)
	b.family(4, 5, 6, "web", 5, all...)
	b.family(7, 8, 9, "web", 5, all...)
	b.commit(turnedRecord(id(6)), burnedRecord(id(7)))
	b.push(10, 11)
	state, lies := b.store.State(), look(b.disk)
	for _, isDead := range []bool{false, true} {
		if isDead {
			b.counts = false
			b.disk.Crash(0)
		}
		for _, now := range []int{math.MinInt, 6, 1005, math.MaxInt} {
			b.mustLive(now, 3, now < 1005)
			b.mustLive(now, 6, false)
			b.mustLive(now, 9, false)
			b.must(answer{}, living(now, "x"))
		}
		if !isSameState(b.store.State(), state) || !bytes.Equal(look(b.disk), lies) || b.source.Left() != 2 {
			t.Error("P18.2: Live has changed something")
		}
	}
}
