package bearer_test

import (
	"testing"

	"usher/api"
)

// TestOneTickAhead: by life, and by exp.
func TestOneTickAhead(t *testing.T) {
	for _, life := range []int{1, 2, 10, 1 << 30} {
		b := newBench(t, life)
		b.tell(5, "abc")
		b.mustKnow(5+life-1, "abc")
		b.mustHold(5+life-1, 1)
		b.mustHold(5+life, 0)
		b.mustNotKnow(5+life, "abc")
		b.mustKnow(5+life-1, "abc")
		b.tell(5+life, "abc")
		b.mustKnow(5+2*life-1, "abc")
		b.mustNotKnow(5+2*life, "abc")
	}
	b := newBench(t, 10)
	b.must(letIn("ann", "web", "a"), true, 5, bearing("abc"), nil, anns(9, "a"))
	b.must(letIn("ann", "web", "a"), false, 8, bearing("abc"), nil, nil)
	b.must(worthless, true, 9, bearing("abc"), nil, anns(9, "a"))
	b.must(letIn("ann", "web", "b"), true, 9, bearing("abc"), nil, anns(10, "b"))
	b.must(letIn("ann", "web", "b"), false, 9, bearing("abc"), nil, anns(10, "c"))
}

// TestWhatIsRememberedCounts: what ask would say now makes no difference; once it is asked, the new answer takes the place of the old one.
func TestWhatIsRememberedCounts(t *testing.T) {
	b := newBench(t, 10)
	q := bearing("abc")
	b.must(letIn("ann", "web", "a"), true, 5, q, nil, anns(100, "a"))
	b.must(letIn("ann", "web", "a"), false, 14, q, []string{"a"}, active(text("scope", "b"), text("username", "bob")))
	b.must(scarce("b"), false, 14, q, []string{"b"}, active(text("scope", "b"), text("username", "bob")))
	b.must(letIn("bob", "", "b"), true, 15, q, []string{"b"}, active(text("scope", "b"), text("username", "bob")))
	b.must(scarce("a"), false, 15, q, []string{"a"}, anns(100, "a"))
	b.must(letIn("bob", "", "b"), false, 5, q, nil, anns(100, "a")) // what was told first is gone
	b.mustHold(5, 1)
}

// TestRefusedIsRemembered: that the scopes do not do does not keep an answer from being remembered.
func TestRefusedIsRemembered(t *testing.T) {
	b := newBench(t, 10)
	b.must(scarce("c"), true, 5, bearing("abc"), []string{"c"}, anns(100, "a b"))
	b.mustHold(5, 1)
	b.must(letIn("ann", "web", "a", "b"), false, 14, bearing("abc"), []string{"b"}, nil)
}

func TestLifeNought(t *testing.T) {
	b := newBench(t, 0)
	for range 3 {
		b.must(letIn("ann", "web", "a"), true, 5, bearing("abc"), []string{"a"}, anns(6, "a"))
		b.must(scarce("b"), true, 5, bearing("abc"), []string{"b"}, anns(6, "a"))
		b.mustNotKnow(5, "abc")
		b.mustHold(0, 0)
		b.mustHold(5, 0)
	}
	b.forget("abc")
	for _, token := range tokens(0, most+3) {
		b.tell(5, token)
	}
	b.mustHold(5, 0)
}

// TestBadAnswersDropNothing: neither of their own token nor of another one.
func TestBadAnswersDropNothing(t *testing.T) {
	b := newBench(t, 10)
	b.tell(5, "a", "b")
	b.must(worthless, true, 15, bearing("a"), nil, []api.Member{flag("active", false)})
	b.must(worthless, true, 100, bearing("a"), nil, anns(100, "a"))
	b.must(worthless, true, 100, bearing("c"), nil, nil)
	b.mustHold(14, 2)
	b.mustKnow(14, "a", "b")
}

// TestTimeThatGoesBack: what does not count now counts again, unless something was remembered in between.
func TestTimeThatGoesBack(t *testing.T) {
	b := newBench(t, 10)
	b.tell(5, "a")
	b.tell(10, "b")
	b.mustHold(15, 1)
	b.mustHold(20, 0)
	b.mustHold(14, 2)
	b.mustNotKnow(20, "a", "b")
	b.mustKnow(14, "a", "b")
	b.mustKnow(0, "a", "b")
	b.tell(15, "c") // drops a, which is at its end, and not b
	b.mustHold(14, 2)
	b.mustNotKnow(14, "a")
	b.mustKnow(14, "b", "c")
	b.tell(3, "d") // told at an earlier time than the others, and to an earlier end
	b.mustHold(12, 3)
	b.mustHold(13, 2)
	b.tell(13, "e")
	b.mustHold(0, 3)
	b.mustNotKnow(3, "d")
	b.tell(last, "f") // drops all others
	b.mustHold(0, 1)
	b.tell(0, "g")
	b.mustHold(0, 2)
	b.mustHold(9, 2)
	b.mustHold(10, 1)
	b.mustHold(last, 1)
}

func TestForget(t *testing.T) {
	b := newBench(t, 10)
	for _, token := range []string{"", "a", "abc", "!", "\xff"} {
		b.forget(token)
		b.mustHold(0, 0)
	}
	b.tell(5, "a", "b", "c")
	for _, token := range []string{"", "ab", "A", "a=", "d", "b "} {
		b.forget(token)
		b.mustHold(5, 3)
	}
	b.forget("b")
	b.mustHold(5, 2)
	b.forget("b")
	b.mustHold(5, 2)
	b.mustNotKnow(5, "b")
	b.mustKnow(14, "a", "c")
	b.tell(6, "b")
	b.mustHold(15, 1)
	b.forget("a") // which counts no more: it is forgotten all the same
	b.mustHold(14, 2)
	b.mustNotKnow(14, "a")
	b.mustKnow(14, "b", "c")
}

// TestHeldChangesNothing asks at all times between two calls.
func TestHeldChangesNothing(t *testing.T) {
	b := newBench(t, 10)
	b.tell(5, "a")
	b.tell(9, "b")
	for now := range 40 {
		want := 0
		for _, until := range []int{15, 19} {
			if now < until {
				want++
			}
		}
		b.mustHold(now, want)
	}
	b.mustHold(last, 0)
	b.mustHold(0, 2)
	b.mustKnow(14, "a", "b")
}

// full is a guard that was told of so many tokens, one tick behind the other from 0 on, each with a long life.
func full(t *testing.T, count int) *bench {
	t.Helper()
	b := newBench(t, 1<<20)
	for i, token := range tokens(0, count) {
		b.tell(i, token)
	}
	b.mustHold(count, min(count, most))
	return b
}

// mustHoldJust fails unless these of the first tokens are remembered, and no other one of them.
func (b *bench) mustHoldJust(now, of int, held ...string) {
	b.t.Helper()
	b.mustHold(now, len(held))
	b.mustKnow(now, held...)
	isHeld := map[string]int{}
	for _, token := range held {
		isHeld[token]++
	}
	for _, token := range tokens(0, of) {
		if isHeld[token] == 0 {
			b.mustNotKnow(now, token)
		}
	}
}

// TestRoom: up to 256 tokens are remembered; for each one more the one told first goes.
func TestRoom(t *testing.T) {
	for _, count := range []int{255, 256, 257, 258, 511, 512, 513, 600} {
		b := full(t, count)
		first := max(0, count-most)
		b.mustHoldJust(count, count, tokens(first, count-first)...)
		b.mustHoldJust(0, count, tokens(first, count-first)...)
	}
}

// TestToldFirst: it is the order in which they were told that decides, not the time, the end, the text, or how often one was shown.
func TestToldFirst(t *testing.T) {
	b := newBench(t, 1000)
	b.tell(900, "z")                                                              // has the latest end of all
	b.must(letIn("", ""), true, 5, bearing("y"), nil, active(number("exp", 600))) // has the earliest end
	for i, token := range tokens(0, 254) {
		b.tell(100+(i*37)%300, token)
	}
	b.mustHold(100, 256)
	b.mustKnow(150, "z", "y", "z")
	b.tell(50, "a")
	b.mustNotKnow(150, "z")
	b.mustKnow(150, "y", "a")
	b.tell(60, "b")
	b.mustNotKnow(150, "z", "y")
	b.tell(70, "c")
	b.mustHoldJust(150, 254, append(tokens(1, 253), "a", "b", "c")...)
}

// TestDroppedMakesRoom: what does not count at the time goes ahead of the one told first, and makes room for as many.
func TestDroppedMakesRoom(t *testing.T) {
	for _, over := range []int{0, 1, 2, 100, 256} { // so many count no longer
		b := newBench(t, 1000)
		for i, token := range tokens(0, most) {
			end := 5000
			if i >= most-over {
				end = 50
			}
			b.must(letIn("", ""), true, 10, bearing(token), nil, active(number("exp", end)))
		}
		b.mustHold(49, most)
		b.mustHold(50, most-over)
		b.tell(50, "new")
		held := append(tokens(0, most-over), "new")
		if over == 0 {
			held = held[1:]
		}
		b.mustHoldJust(49, most, held...)
		var more []string
		for i := range most - len(held) {
			more = append(more, tokens(1000+i, 1)...)
			b.tell(51, more[i])
		}
		held = append(held, more...)
		b.mustHoldJust(51, most, held...)
		b.tell(52, "newer")
		b.mustHoldJust(52, most, append(held[1:], "newer")...)
	}
}

// TestTokenItselfAmongThem: what is remembered of the token itself makes room for it, and it stands behind the others then.
func TestTokenItselfAmongThem(t *testing.T) {
	for _, place := range []int{0, 1, 128, 255} {
		b := newBench(t, 1000)
		for i, token := range tokens(0, most) {
			end := 5000
			if i == place {
				end = 50
			}
			b.must(letIn("", ""), true, 10, bearing(token), nil, active(number("exp", end)))
		}
		self := tokens(place, 1)[0]
		b.tell(50, self)
		b.mustHoldJust(50, most, tokens(0, most)...)
		for i := range most - 1 { // all that were told ahead of it go ahead of it
			b.tell(51, tokens(1000+i, 1)...)
			b.mustKnow(51, self)
		}
		b.mustHoldJust(51, most, append(tokens(1000, most-1), self)...)
		b.tell(51, "more")
		b.mustNotKnow(51, self)
	}
}
