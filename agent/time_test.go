package agent_test

import (
	"slices"
	"testing"

	"usher/api"
)

// mustBe fails unless the agent's time is that: what comes now and lasts a tick is there then, and a tick on it is not.
func (b *bench) mustBe(now int) {
	b.t.Helper()
	b.tell(-1, "Set-Cookie", set("probe", "x", 1))
	for _, at := range []int{now, now + 1} {
		b.look(at)
		if there := slices.Contains(b.agent.Jar(at), api.Pair{Name: "probe", Value: "x"}); there != (at == now) {
			b.t.Fatalf("P23.4: the agent's time is to be %d; a cookie of one tick is in the jar at %d: %v", now, at, there)
		}
	}
	b.tell(-1, "Set-Cookie", set("probe", "x", 0))
}

// TestTimeGoesOn: the greatest time of a Visit, a Submit or a Take counts, and no later call with an earlier one turns it back.
func TestTimeGoesOn(t *testing.T) {
	newBench(t).mustBe(0)
	for _, now := range []int{-1 << 63, -1, 0, 1, 9, 1 << 40, 1 << 61} {
		at := max(now, 0)
		b := newBench(t)
		b.visit(now, "/")
		b.mustBe(at)
		b = newBenchAt(t, loginPage())
		b.submit(now, 0)
		b.stays(-5, plainly())
		b.mustBe(at)
		b = newBench(t)
		b.visit(-1, "/")
		b.stays(now, plainly())
		b.mustBe(at)
		b = newBench(t)
		b.visit(-1, "/")
		b.follows(now, sending("/a"), "/a", "")
		b.mustBe(at)
		b = newBench(t)
		b.visit(-1, "/")
		b.isSentAway(now, sending("x"), "x")
		b.mustBe(at)
		b = newBench(t)
		b.visit(-1, "/")
		b.hop(-1, hops, "")
		b.refusesAnswer(api.ErrMany, now, sending("/a"))
		b.mustBe(at)
	}
}

// TestTimeDoesNotGoBack makes each call with an earlier time behind each one with a later.
func TestTimeDoesNotGoBack(t *testing.T) {
	field := set("sid", "x", 10)
	calls := []func(b *bench, now int){
		func(b *bench, now int) { b.visit(now, "/") },
		func(b *bench, now int) { b.submit(now, 0) },
		func(b *bench, now int) { b.visit(-1, "/"); b.stays(now, showing(loginPage())) },
		func(b *bench, now int) { b.visit(now, "/"); b.follows(now, sending("/a"), "/a", "sid=x") },
	}
	for _, later := range calls {
		for _, earlier := range calls {
			b := newBenchAt(t, loginPage())
			b.tell(0, "Set-Cookie", field)
			b.visit(0, "/")
			b.stays(0, showing(loginPage()))
			later(b, 7)
			if _, there := b.agent.Page(); !there {
				b.visit(0, "/")
				b.stays(0, showing(loginPage()))
			}
			earlier(b, 3)
			b.mustBe(7)
			b.mustHave(9, "sid", "x")
			b.mustSend(2, "sid=x")
			b.mustSend(10, "")
			b.mustSend(2, "")
		}
	}
}

// TestRefusedCallsLeaveTheTime: with another error than ErrMany nothing changes, the time neither.
func TestRefusedCallsLeaveTheTime(t *testing.T) {
	b := newBenchAt(t, manyForms("/a", "//x"))
	refusals := func() {
		for _, now := range []int{100, 1 << 62} {
			b.refusesVisit(now, "x")
			b.refusesForm(api.ErrArg, now, 2)
			b.refusesForm(api.ErrText, now, 1)
			b.mustHave(now)
		}
	}
	refusals()
	b.waitsNot(1 << 62)
	b.mustBeAt(manyForms("/a", "//x"))
	b.visit(3, "/")
	refusals()
	b.stays(3, plainly("Set-Cookie", set("sid", "x", 10)))
	b.refusesForm(api.ErrLost, 1<<62, 0)
	b.refusesVisit(13, "")
	b.waitsNot(13)
	b.mustHave(12, "sid", "x")
	b.mustSend(12, "sid=x")
	b.refusesForm(api.ErrLost, 13, 0)
	b.stays(12, plainly())
	b.mustSend(1, "sid=x")
	b.mustBe(12)
}

// TestLookingChangesNothing: what does not last at a later time that is asked for is still there at an earlier one, and sent.
func TestLookingChangesNothing(t *testing.T) {
	b := told(t, 1, "Set-Cookie", set("a", "1", 5), "Set-Cookie", set("b", "2", -1), "Set-Cookie", set("c", "3", 1))
	for range 3 {
		for _, now := range []int{1 << 62, 6, 5, 2, 1, 0, -1, -1 << 63} {
			b.agent.Page()
			b.agent.Where()
			switch {
			case now >= 6:
				b.mustHave(now, "b", "2")
			case now >= 2:
				b.mustHave(now, "a", "1", "b", "2")
			default:
				b.mustHave(now, "a", "1", "b", "2", "c", "3")
			}
		}
	}
	b.mustSend(1, "a=1; b=2; c=3")
	b.mustHave(1<<62, "b", "2")
}

// TestWhenTheTimeCounts: a request has the cookies at its own time, and an answer's last from the time of the answer on.
func TestWhenTheTimeCounts(t *testing.T) {
	b := newBench(t)
	b.visit(5, "/")
	b.stays(20, showing(loginPage(), "Set-Cookie", set("sid", "x", 10)))
	b.sends(post("/login", "sid=x", "user=&n=1"), 29, 0)
	b.follows(29, sending("/a"), "/a", "sid=x")
	b.follows(30, sending("/b"), "/b", "")
	b.follows(30, sending("/c", "Set-Cookie", set("sid", "y", 3)), "/c", "sid=y")
	b.goesTo(32, "/d", "sid=y")
	b.goesTo(33, "/e", "")
	b.goesTo(32, "/f", "")
}
