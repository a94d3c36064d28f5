package client_test

import (
	"fmt"
	"math"
	"math/rand"
	"testing"

	"usher/api"
)

// A player is a bench with a ledger, whose draws are unlike one another.
type player struct {
	*bench
	number int // of the next draw
	now    int
}

func newPlayer(t *testing.T) *player {
	t.Helper()
	p := &player{bench: newBench(t), number: 1}
	p.ledger = &ledger{}
	return p
}

func (p *player) starts() {
	p.begin(draw(p.number), draw(p.number+1))
	p.number += 2
}

// state is that of the beginning so many ahead of the last one.
func (p *player) state(back int) string { return letters(draw(p.number - 2 - 2*back)) }

func (p *player) comes(name, value string, back int) { p.back(p.own(name, value, p.state(back))) }

// codeName is a code of which none of its run is the beginning of another one.
func (p *player) codeName() string { return fmt.Sprintf("code%d.", p.number) }

func (p *player) answers(r api.Reply) {
	p.now++
	p.take(p.now, r)
}

// steps are what may happen to a client.
func steps() []func(p *player) {
	answers := func(r api.Reply) func(p *player) { return func(p *player) { p.answers(r) } }
	return []func(p *player){
		(*player).starts,
		func(p *player) { p.begin(draw(0), draw(0)[1:]) },
		func(p *player) { p.comes("code", p.codeName(), 0) },
		func(p *player) { p.comes("code", p.codeName(), 1) },
		func(p *player) { p.comes("error", "e", 0) },
		func(p *player) { p.redeem() },
		func(p *player) { p.renew() },
		func(p *player) { p.drop() },
		answers(giving("t", 3, "read", "r")),
		answers(giving("u", 1, "write", "")),
		answers(giving("v", 1, "admin", "s")),
		answers(refusing(400, "f")),
		answers(refusing(503, "g")),
	}
}

// beginnings are rows of calls from which all short runs are played.
func beginnings() map[string]func(p *player) {
	toToken := func(p *player) {
		p.starts()
		p.comes("code", p.codeName(), 0)
		p.redeem()
		p.answers(giving("w", 5, "read write", "q"))
	}
	return map[string]func(p *player){
		"nothing": func(p *player) {},
		"a code":  func(p *player) { p.starts(); p.comes("code", p.codeName(), 0) },
		"a token": toToken,
		"a token, all out": func(p *player) {
			toToken(p)
			p.starts()
			p.renew()
		},
		"a token without refresh, a code": func(p *player) {
			toToken(p)
			p.renew()
			p.answers(refusing(400, "h"))
			p.starts()
			p.comes("code", p.codeName(), 0)
		},
	}
}

// TestEveryShortRun plays all runs of four steps from each beginning. The ledger asks P24.8 of every step.
func TestEveryShortRun(t *testing.T) {
	all := steps()
	for name, beginning := range beginnings() {
		for run := range len(all) * len(all) * len(all) * len(all) {
			p := newPlayer(t)
			beginning(p)
			rest := run
			for range 4 {
				all[rest%len(all)](p)
				rest /= len(all)
			}
			if t.Failed() {
				t.Fatalf("in the run %d from %s", run, name)
			}
		}
	}
}

// anObject is the body of an answer, good or not.
func anObject(random *rand.Rand) string {
	var list []any
	add := func(odds int, name string, value any) {
		if random.Intn(odds) > 0 {
			list = append(list, name, value)
		}
	}
	add(30, "access_token", oneOf[any](random, fmt.Sprint("t", random.Intn(100)), "t", "t", "u", "", 1))
	add(30, "token_type", oneOf[any](random, "Bearer", "bearer", "BEARER", "Bearer", "Bearer", "Bearer", "mac", true))
	add(30, "expires_in", oneOf[any](random, random.Intn(100), random.Intn(100), 5, 0, 1<<30, 1<<30+1, -1, "5"))
	add(30, "scope", oneOf[any](random, "read", "write", "read write", "write read", "read", "read", "admin", "", 1))
	add(2, "refresh_token", oneOf[any](random, fmt.Sprint("r", random.Intn(100)), "r", "r", "s", "s", "", 1))
	add(8, "error", oneOf[any](random, "invalid_grant", "e", "f", noise(random, "abc", 3), "", 1))
	if random.Intn(20) == 0 {
		add(2, "scope", "read")
	}
	for at := 0; at < len(list); at += 2 {
		other := 2 * random.Intn(len(list)/2)
		list[at], list[other], list[at+1], list[other+1] = list[other], list[at], list[other+1], list[at+1]
	}
	body := object(list...)
	if random.Intn(15) == 0 {
		at := random.Intn(len(body))
		body = body[:at] + noise(random, everyByte(), random.Intn(2)) + body[at+1:]
	}
	return body
}

func aReply(random *rand.Rand) api.Reply {
	if random.Intn(3) == 0 {
		return giving(oneOf(random, "t", "u"), random.Intn(40), "read", oneOf(random, "", "r", "s"))
	}
	status := oneOf(random, 200, 200, 400, 400, 401, 503, 0, 1<<40)
	return answer(status, oneOf(random, anObject(random), anObject(random), anObject(random), anObject(random), object("error", "e"), ""))
}

func aTime(random *rand.Rand) int {
	return oneOf(random, random.Intn(100), random.Intn(100), random.Intn(100), last-random.Intn(5), last+random.Intn(5), -random.Intn(5), math.MaxInt, math.MinInt)
}

// aStep makes some call on a bench, with draws from that number on.
func aStep(random *rand.Rand, b *bench, number *int) string {
	state := letters(draw(*number))
	switch random.Intn(12) {
	case 0, 1:
		size := oneOf(random, 32, 32, 32, 32, 32, 32, 31, 33, 0)
		*number += 2
		_, err := b.begin(draw(*number), (draw(*number+1) + "x")[:size])
		return fmt.Sprint("begin ", err)
	case 2, 3, 4:
		name := oneOf(random, "code", "code", "code", "error", "codes")
		value := oneOf(random, fmt.Sprintf("code%d.%d.", *number, random.Intn(1e9)), noise(random, everyByte(), random.Intn(4)))
		uri := answerOf(b.model.redirect, name, value, "state", oneOf(random, state, state, state, state, letters(draw(random.Intn(100)))))
		if random.Intn(10) == 0 {
			at := random.Intn(len(uri))
			uri = uri[:at] + noise(random, everyByte(), random.Intn(2)) + uri[at+1:]
		}
		return fmt.Sprint("return ", b.back(uri))
	case 5, 6:
		_, err := b.redeem()
		return fmt.Sprint("redeem ", err)
	case 7:
		if _, err := b.renew(); err != nil || random.Intn(2) == 0 {
			return fmt.Sprint("renew ", err)
		}
	case 8:
		if random.Intn(3) > 0 {
			return "none"
		}
		if _, err := b.drop(); err != nil || random.Intn(2) == 0 {
			return fmt.Sprint("drop ", err)
		}
	}
	b.lookAt(aTime(random))
	of := b.model.out()
	return fmt.Sprint("take ", of, " ", b.take(aTime(random), aReply(random)))
}

// TestRunsByChance plays long runs of clients of all kinds.
func TestRunsByChance(t *testing.T) {
	random := rand.New(rand.NewSource(1))
	ends := map[string]int{}
	for range 600 {
		b := newBenchOf(t, oneOf(random, "app", "a:b", "!&="), oneOf(random, "", "pw", everyByte()), oneOf(random, homes()...), oneOf(random, "read write", "read"), "read")
		number := 0
		for range 200 {
			ends[aStep(random, b, &number)]++
		}
	}
	for _, end := range []string{"begin <nil>", "begin argument", "return <nil>", "return lost", "return denied", "redeem <nil>", "redeem lost", "renew <nil>", "renew lost", "drop <nil>", "drop lost", "take  lost", "take redeem <nil>", "take redeem text", "take redeem denied", "take renew <nil>", "take renew text", "take renew denied", "take drop <nil>", "take drop text", "take drop denied"} {
		if ends[end] < 50 {
			t.Errorf("by chance %q happens only %d times", end, ends[end])
		}
	}
}

// TestWhatFollows is P24.8 of long runs: the ledger asks it of every step.
func TestWhatFollows(t *testing.T) {
	random := rand.New(rand.NewSource(2))
	all, sent := steps(), 0
	for range 800 {
		p := newPlayer(t)
		for range 150 {
			all[random.Intn(len(all))](p)
		}
		for _, s := range p.ledger.codes {
			if s.spent {
				sent++
			}
		}
	}
	if sent < 1000 {
		t.Errorf("only %d codes are sent", sent)
	}
}
