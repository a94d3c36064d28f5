package bearer_test

import (
	"math"
	"math/rand"
	"strings"
	"testing"

	"usher/api"
)

// steps are what may happen to a guard of a short life.
func steps() []func(b *bench) {
	check := func(now int, token string, answer ...api.Member) func(b *bench) {
		return func(b *bench) { b.check(now, bearing(token), []string{"r"}, answer) }
	}
	good := active(text("scope", "r"))
	return []func(b *bench){
		check(0, "a", good...), check(2, "a", good...), check(3, "a", good...), check(4, "a", active()...), check(2, "a", active(text("scope", "r"), number("exp", 3))...), check(4, "a", flag("active", false)),
		check(1, "b", good...), check(3, "b", active(text("scope", "w r"), number("exp", 4))...), check(5, "b", good...),
		func(b *bench) { b.forget("a") }, func(b *bench) { b.forget("b") },
	}
}

// TestEveryShortRun plays all runs of four steps, and looks at the end at all times at which something may turn.
func TestEveryShortRun(t *testing.T) {
	all := steps()
	for _, life := range []int{0, 1, 3} {
		for run := range len(all) * len(all) * len(all) * len(all) {
			b := newBench(t, life)
			rest := run
			for range 4 {
				all[rest%len(all)](b)
				rest /= len(all)
			}
			b.look(0, 1, 2, 3, 4, 5, 6, 7, 8)
		}
	}
}

// anAnswer is one that may be good at that time, or not.
func anAnswer(random *rand.Rand, now int) []api.Member {
	var list []api.Member
	add := func(odds int, m api.Member) {
		if random.Intn(odds) > 0 {
			list = append(list, m)
		}
	}
	add(20, oneOf(random, flag("active", true), flag("active", true), flag("active", true), flag("active", true), flag("active", false), text("active", "true")))
	add(4, oneOf(random, text("scope", noise(random, "rwx ", random.Intn(6))), text("scope", "r"), text("scope", "w r"), number("scope", 1)))
	add(4, oneOf(random, text("username", "ann"), text("username", noise(random, everyByte(), 3)), flag("username", true)))
	add(4, oneOf(random, text("client_id", "web"), text("client_id", ""), number("client_id", 3)))
	add(3, oneOf(random, number("exp", now+random.Intn(40)), number("exp", now+1), number("exp", now), number("exp", random.Intn(100)), text("exp", "3"), number("exp", math.MaxInt), number("exp", math.MinInt)))
	add(3, number("iat", random.Intn(100)))
	if len(list) > 0 && random.Intn(12) == 0 {
		list = append(list, list[random.Intn(len(list))])
	}
	random.Shuffle(len(list), func(i, k int) { list[i], list[k] = list[k], list[i] })
	return list
}

func aNeed(random *rand.Rand) []string {
	var need []string
	for range random.Intn(4) {
		need = append(need, oneOf(random, "r", "r", "w", "x", "", "r w", "\"", noise(random, everyByte(), 2)))
	}
	return need
}

// TestRunsByChance plays long runs of few tokens and of many, with a time that goes on, leaps, and goes back.
func TestRunsByChance(t *testing.T) {
	random := rand.New(rand.NewSource(2))
	statuses := map[int]int{}
	for round := range 120 {
		b := newBench(t, oneOf(random, 0, 1, 5, 20, 300, 1<<30))
		many := oneOf(random, 2, 5, 40, 270, 300, 600)
		now := oneOf(random, 0, 0, random.Intn(1000), last-20)
		for range 300 + 900*(round%2) {
			switch random.Intn(30) {
			case 0:
				now -= random.Intn(40)
			case 1:
				now += random.Intn(40)
			case 2, 3, 4, 5, 6, 7:
				now++
			case 8:
				b.forget(tokens(random.Intn(many), 1)[0])
			case 9:
				statuses[b.check(now, aRequest(random), aNeed(random), anAnswer(random, onTime(now))).Status]++
			}
			token := tokens(random.Intn(many), 1)[0]
			q := oneOf(random, bearing(token), bearing(token), get("/r?access_token="+token), posted("access_token="+token))
			statuses[b.check(now, q, aNeed(random), anAnswer(random, onTime(now))).Status]++
			b.look(random.Intn(100), now-5, now+5)
		}
	}
	for _, status := range []int{200, 400, 401, 403} {
		if statuses[status] < 500 {
			t.Errorf("by chance a guard decides %d only %d times", status, statuses[status])
		}
	}
}

// TestFullRuns: with as many tokens as there is room for, and more; good answers alone, so that all is remembered.
func TestFullRuns(t *testing.T) {
	random := rand.New(rand.NewSource(3))
	for round := range 12 {
		b := newBench(t, oneOf(random, 100, 1000, 1<<30))
		now := 0
		for range 2500 {
			now += oneOf(random, 0, 0, 1, round%4, -1)
			token := tokens(random.Intn(oneOf(random, 256, 258, 280, 400)), 1)[0]
			answer := active(text("scope", "r"))
			if random.Intn(4) == 0 {
				answer = append(answer, number("exp", onTime(now)+1+random.Intn(200)))
			}
			b.check(now, bearing(token), nil, answer)
			if random.Intn(50) == 0 {
				b.forget(token)
			}
		}
	}
}

// TestRevokedIsLetInNoMore: from the time on at which the life of what was said is over, where the time does not go back.
func TestRevokedIsLetInNoMore(t *testing.T) {
	random := rand.New(rand.NewSource(4))
	for _, life := range []int{0, 1, 7, 30} {
		for range 200 {
			b := newBench(t, life)
			revoked := random.Intn(50)
			for now := 0; now < 120; now += random.Intn(4) {
				answer := anns(1000, "r")
				if now >= revoked {
					answer = []api.Member{flag("active", false)}
				}
				got := b.check(now, bearing("abc"), nil, answer)
				if now < revoked && got.Status != 200 || now >= revoked+life && got.Status != 401 {
					t.Fatalf("P22.6: a token that is revoked at %d is answered at %d with %d, where the life is %d", revoked, now, got.Status, life)
				}
			}
		}
	}
}

// TestOneAnswerIsNotAnothers: what was said of a token lets in no other one.
func TestOneAnswerIsNotAnothers(t *testing.T) {
	list := []string{"a", "A", "a=", "a==", "aa", "ab", "b", "a.", strings.Repeat("a", 100)}
	for _, one := range list {
		b := newBench(t, 10)
		b.tell(5, one)
		for _, other := range list {
			if other != one {
				b.mustNotKnow(5, other)
			}
		}
		b.mustKnow(5, one)
	}
}
