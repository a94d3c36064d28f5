package agent_test

import (
	"fmt"
	"math/rand"
	"strings"
	"testing"

	"usher/api"
)

// steps are what may happen to an agent.
func steps() []func(b *bench) {
	visit := func(now int, target string) func(b *bench) { return func(b *bench) { b.visit(now, target) } }
	submit := func(now, form int, typed ...string) func(b *bench) {
		return func(b *bench) { b.submit(now, form, typed...) }
	}
	take := func(now int, r api.Reply) func(b *bench) { return func(b *bench) { b.take(now, r) } }
	p := manyForms("/to", "//to")
	return []func(b *bench){
		visit(1, "/a"), visit(4, "/b"), visit(5, "//x"), submit(2, 0), submit(3, 1), submit(6, 2),
		take(1, showing(p, "Set-Cookie", set("a", "1", 2))), take(3, showing(p, "Set-Cookie", set("b", "2", -1))),
		take(2, sending("/c", "Set-Cookie", set("a", "3", 3))), take(4, sending("https://a/cb", "Set-Cookie", set("b", "", 0))),
		take(0, answer(303, htmlOf(p))), take(5, plainly("Set-Cookie", set("a", "", 0))),
	}
}

// TestEveryShortRun plays all runs of four steps, from the beginning and from a page on.
func TestEveryShortRun(t *testing.T) {
	all := steps()
	for run := range len(all) * len(all) * len(all) * len(all) {
		b := newBench(t)
		if run%2 == 0 {
			all[0](b)
			all[6](b)
		}
		rest := run
		for range 4 {
			all[rest%len(all)](b)
			rest /= len(all)
		}
		b.look(0, 1, 2, 3, 4, 5, 6, 7, 8, 9)
	}
}

func aText(random *rand.Rand) string {
	return oneOf(random, "", "a", "b", "yes", "a b", "&=<>\"'+%", noise(random, everyByte(), random.Intn(5)))
}

func aPlace(random *rand.Rand) string {
	return oneOf(random, "/", "/", "/a", "/b", "/home", "/home", "/login?next=%2F", "/consent", "/"+noise(random, "abc/\\?&=%~!", 4), noise(random, everyByte(), 3), "//x", "/\\x", "https://a.example/cb?code=1", "", "a")
}

func aPage(random *rand.Rand) api.Page {
	p := api.Page{Title: aText(random)}
	for range random.Intn(3) {
		p.Lines = append(p.Lines, aText(random))
	}
	for range oneOf(random, 0, 1, 1, 1, 2, 3) {
		f := api.Form{Action: aPlace(random), Button: aText(random)}
		for range random.Intn(5) {
			name := "n" + aText(random)
			f.Inputs = append(f.Inputs, oneOf(random, hidden(name, aText(random)), line(name, aText(random)), secret(name), box(name, oneOf(random, "yes", "b"))))
		}
		p.Forms = append(p.Forms, f)
	}
	return p
}

// aSetting is a field of a cookie, out of so many names; now and then it is none.
func aSetting(random *rand.Rand, names int) []string {
	name := fmt.Sprint("c", random.Intn(names))
	age := oneOf(random, -1, -1, 0, 1, 2, 5, 10, 10, 30, 100, 1000)
	value := set(name, noise(random, "abcd", random.Intn(3)), age)
	if random.Intn(12) == 0 {
		at := random.Intn(len(value))
		value = value[:at] + noise(random, everyByte(), random.Intn(2)) + value[at+1:]
	}
	return []string{oneOf(random, "Set-Cookie", "set-cookie", "SET-COOKIE"), value}
}

func aReply(random *rand.Rand, names int) api.Reply {
	r := api.Reply{Status: oneOf(random, 200, 200, 302, 303, 303, 303, 301, 307, 404, 500)}
	add := func(fields ...string) { r.Fields = append(r.Fields, pairs(fields...)...) }
	for range oneOf(random, 0, 0, 1, 1, 2, 3, 20) {
		add(aSetting(random, names)...)
	}
	if r.Status == 200 || random.Intn(3) == 0 {
		r.Body = htmlOf(aPage(random))
		add("Content-Type", oneOf(random, "text/html; charset=utf-8", "text/html", "text/html", "Text/HTML;", "text/plain", "text", ""))
	}
	for range oneOf(random, 0, 1, 1, 1, 1, 1, 1, 2) {
		add(oneOf(random, "Location", "location"), aPlace(random))
	}
	if random.Intn(20) == 0 {
		add("Content-Type", "text/html")
	}
	random.Shuffle(len(r.Fields), func(i, k int) { r.Fields[i], r.Fields[k] = r.Fields[k], r.Fields[i] })
	return r
}

// typing is what somebody types into the forms of the page.
func typing(random *rand.Rand, p api.Page) []string {
	var list []string
	for _, f := range p.Forms {
		for _, in := range f.Inputs {
			for range random.Intn(3) {
				list = append(list, in.Name, oneOf(random, in.Value, aText(random)))
			}
		}
	}
	return append(list, aText(random), aText(random))
}

// TestRunsByChance plays long runs of few cookies and of many, with a time that goes on, leaps, and goes back.
func TestRunsByChance(t *testing.T) {
	random := rand.New(rand.NewSource(1))
	ends, full := map[string]int{}, 0
	for range 150 {
		b := newBench(t)
		names, now := oneOf(random, 2, 10, 17, 30, 100), oneOf(random, 0, random.Intn(1000), 1<<40)
		for range 300 {
			switch random.Intn(12) {
			case 0:
				now -= random.Intn(60)
			case 1:
				now += random.Intn(60)
			case 2, 3, 4, 5:
				now += random.Intn(2)
			}
			switch random.Intn(8) {
			case 0, 1:
				_, err := b.visit(now, aPlace(random))
				ends[fmt.Sprint("visit ", err)]++
			case 2, 3:
				_, err := b.submit(now, oneOf(random, 0, 0, 0, 0, 1, 1, 2, 3, -1), typing(random, b.model.page)...)
				ends[fmt.Sprint("submit ", err)]++
			default:
				_, kind, err := b.take(now, aReply(random, names))
				ends[fmt.Sprint("take ", kind, " ", err)]++
			}
			b.look(now-5, now+1, now+5, now+random.Intn(200), random.Intn(1000))
			if len(b.agent.Jar(now)) == most {
				full++
			}
		}
	}
	for _, end := range []string{"visit <nil>", "visit text", "submit <nil>", "submit lost", "submit argument", "submit text", "take 0 <nil>", "take 1 <nil>", "take 2 <nil>", "take 0 lost"} {
		if ends[end] < 300 {
			t.Errorf("by chance %q happens only %d times", end, ends[end])
		}
	}
	if full < 1000 {
		t.Errorf("by chance the jar is full only %d times", full)
	}
}

// TestChainsByChance follows redirects for long, so that they are too many now and then.
func TestChainsByChance(t *testing.T) {
	random := rand.New(rand.NewSource(2))
	many := 0
	for range 300 {
		b := newBench(t)
		for now := range 100 {
			switch random.Intn(40) {
			case 0:
				b.visit(now, oneOf(random, "/a", "x"))
			case 1:
				b.take(now, showing(loginPage()))
			case 2:
				b.submit(now, random.Intn(2))
			default:
				if _, _, err := b.take(now, sending("/a", aSetting(random, 20)...)); err == api.ErrMany {
					many++
				}
			}
		}
	}
	if many < 100 {
		t.Errorf("by chance redirects are too many only %d times", many)
	}
}

// TestSentAsLongAsItLasts is P23.8 alone: one cookie, with requests and looks at any times.
func TestSentAsLongAsItLasts(t *testing.T) {
	random := rand.New(rand.NewSource(3))
	for range 3000 {
		b := newBench(t)
		came, age := random.Intn(50), 1+random.Intn(50)
		b.tell(came, "Set-Cookie", set("sid", "x", age))
		for now := came; now < 120; now += random.Intn(9) {
			for range random.Intn(4) {
				b.agent.Jar(random.Intn(200))
			}
			q, err := b.visit(now, "/a")
			if random.Intn(2) == 0 {
				q, _, err = b.take(oneOf(random, now, 0), sending("/b"))
			}
			if sent := strings.Contains(fmt.Sprint(q.Fields), "sid=x"); sent != (now < came+age) || err != nil {
				t.Fatalf("P23.8: a cookie of %d, which lasts %d, is sent at %d: %v, %v", came, age, now, sent, err)
			}
		}
	}
}
