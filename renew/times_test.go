package renew_test

import (
	"math"
	"testing"

	"usher/api"
)

// TestLifeOfARefreshToken: to its last tick and no longer, at the ends of all that can be; what comes behind MaxNow is ErrArg, also where the life would reach so far.
func TestLifeOfARefreshToken(t *testing.T) {
	for _, life := range []int{1, 2, 1000, api.MaxLife} {
		for _, at := range []int{0, 1, 5, 1 << 35, api.MaxNow} {
			c := config()
			c.RefreshLife = life
			ready := func() *bench {
				b := newBench(t, c, 1)
				b.family(1, 2, 3, "web", at, all...)
				b.push(10, 11)
				return b
			}
			for _, now := range []int{0, at - 1, at, at + life/2, at + life - 1, api.MaxNow} {
				if now >= 0 && now < at+life && now <= api.MaxNow {
					ready().must(given(id(10), id(11), "offline_access read write"), renewing(now, web(), showing(id(3))))
				}
			}
			b := ready()
			lies := look(b.disk)
			for _, now := range []int{at + life, at + life + 1, api.MaxNow} {
				if now >= at+life && now <= api.MaxNow {
					b.must(refused("invalid_grant"), renewing(now, web(), showing(id(3))))
				}
			}
			for _, now := range []int{math.MinInt, -1 << 41, -1, api.MaxNow + 1, api.MaxNow + life, math.MaxInt} {
				b.must(failure(api.ErrArg), renewing(now, web(), showing(id(3))))
			}
			b.mustHold(lies)
			if b.source.Left() != 2 {
				t.Errorf("P18.1: %d draws wait", b.source.Left())
			}
		}
	}
}

// TestATimeThatMayNotBe is told ahead of all else, and nothing is burned by it.
func TestATimeThatMayNotBe(t *testing.T) {
	b := newBench(t, config(), 1)
	b.family(1, 2, 3, "web", 5, all...)
	b.commit(turnedRecord(id(3)))
	lies := look(b.disk)
	for _, now := range []int{math.MinInt, -1, api.MaxNow + 1, math.MaxInt} {
		b.must(failure(api.ErrArg), renewing(now, "", nil))
		b.must(failure(api.ErrArg), renewing(now, "Bearer x", showing(id(3))))
		b.must(failure(api.ErrArg), renewing(now, web(), pairs("grant_type", "x")))
		b.must(failure(api.ErrArg), renewing(now, web(), showing(id(3))))
	}
	b.mustHold(lies)
	b.mustCount(5, 2, true)
	b.must(refused("invalid_client"), renewing(0, "", nil))
	b.must(refused("invalid_client"), renewing(api.MaxNow, "", nil))
}

// TestTimeGoesBack: each call looks at its own time alone.
func TestTimeGoesBack(t *testing.T) {
	b := newBench(t, config(), 2)
	b.family(1, 2, 3, "web", 500, all...)
	b.push(10, 11, 12, 13, 14, 15, 16, 17)
	b.must(refused("invalid_grant"), renewing(api.MaxNow, web(), showing(id(3))))
	b.must(given(id(10), id(11), "offline_access read write"), renewing(1499, web(), showing(id(3))))
	b.must(given(id(12), id(13), "offline_access read write"), renewing(0, web(), showing(id(11))).at(1))
	b.must(refused("invalid_grant"), renewing(1000, web(), showing(id(13))))
	b.must(given(id(14), id(15), "offline_access read write"), renewing(999, web(), showing(id(13))))
	b.must(given(id(16), id(17), "offline_access read write"), renewing(999, web(), showing(id(15))).at(1))
	for refresh, at := range map[byte]int{11: 1499, 13: 0, 15: 999, 17: 999} {
		if got, ok := b.store.Refresh(id(refresh)); !ok || got.At != at {
			t.Errorf("P18.1: the store has %+v, %v", got, ok)
		}
		if got, ok := b.store.Token(id(refresh - 1)); !ok || got.At != at {
			t.Errorf("P18.1: the store has %+v, %v", got, ok)
		}
	}
	b.must(refused("invalid_grant"), renewing(0, web(), showing(id(3))))
	b.mustLive(0, 17, false)
}
