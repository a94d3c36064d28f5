package journal_test

import (
	"fmt"
	"math/rand"
	"strings"
	"testing"

	"usher/api"
	"usher/journal"
	"usher/world"
)

// An item is something whole that is sent on a connection: a request, or what is refused. Whoever sends it knows where it ends and what is to be told of it.
type item struct {
	text   string
	told   api.Entry // without Conn, At, Status and Bytes
	mark   string    // stands in the answer to this item, and in no other; but not in a 500, where no draw waits
	isLast bool      // the connection is shut behind it
}

// A wire is a connection as its sender knows it.
type wire struct {
	items  []item // not yet sent to their end
	sent   int    // bytes of the first of them
	isShut bool
}

// A sender makes up a script, and knows of each answer what it answers without reading any of the bytes.
type sender struct {
	t      *testing.T
	random *rand.Rand
	wires  [16]wire
	script []api.Step
	now    int
	epoch  int
	marks  int
	arms   int
	fails  int // how often the power failed amid a request
	want   []api.Entry
}

// fieldsOf are some fields, and what is told of them.
func (p *sender) fieldsOf(e *api.Entry) []string {
	var fields []string
	name := oneOf(p.random, "ann", "", "-", "a\nb", `"x" \`, "a:b")
	switch p.random.Intn(6) {
	case 0:
		fields = append(fields, basic(name, "x"))
		e.User = name
	case 1:
		fields = append(fields, basic(name, "x"), basic("bob", ""))
	case 2:
		fields = append(fields, oneOf(p.random, "Authorization: Bearer x", "Authorization: Basic", "Authorization: Basic YQ=="))
	}
	if p.random.Intn(3) == 0 {
		e.Referer = oneOf(p.random, "", "-", "r", `a "b" \x22`, "é\t\xff")
		fields = append(fields, "Referer: "+e.Referer)
	}
	if p.random.Intn(3) == 0 {
		e.Agent = oneOf(p.random, "", "-", "u", "Mozilla/5.0 (X11)", bareLine)
		fields = append(fields, "USER-agent:"+e.Agent+"\t", "User-Agent: z")
	}
	return fields
}

// ask is a request whose answer has its mark in it.
func (p *sender) ask() item {
	p.marks++
	one := item{mark: fmt.Sprintf("/m%dm", p.marks)}
	fields := p.fieldsOf(&one.told)
	if p.random.Intn(5) == 0 {
		fields = append(fields, "Connection: close")
		one.isLast = true
	}
	one.told.Minor = 1
	if p.random.Intn(3) == 0 {
		one.told.Method, one.told.Target = "POST", "/login"
		one.text = login(one.mark, fields...)
		return one
	}
	one.told.Method, one.told.Target = "GET", "/login?next="+one.mark
	one.text = get(one.told.Target, fields...)
	if p.random.Intn(4) == 0 {
		one.text = strings.Replace(one.text, " /", " http://usher.example/", 1)
	}
	return one
}

// next is a request, or sometimes what is refused.
func (p *sender) next() item {
	if p.random.Intn(8) > 0 {
		return p.ask()
	}
	return item{isLast: true, text: oneOf(p.random, nonsense, "\r\n\r\n", "GET / HTTP/2.0\r\n\r\n", strings.Repeat("a", 400), get("/", "Expect: x"), get("/", "Content-Length: 999", "Referer: r"))}
}

// chunk cuts some bytes off what is to be sent on a wire, and answers them with the items that are whole by them.
func (p *sender) chunk(w *wire) (string, []item) {
	for range p.random.Intn(4) {
		w.items = append(w.items, p.next())
	}
	var waiting strings.Builder
	for i, one := range w.items {
		if i == 0 {
			waiting.WriteString(one.text[w.sent:])
		} else {
			waiting.WriteString(one.text)
		}
	}
	data := waiting.String()
	if p.random.Intn(2) == 0 {
		data = data[:p.random.Intn(len(data)+1)]
	}
	var done []item
	left := len(data) + w.sent
	for len(w.items) > 0 && left >= len(w.items[0].text) {
		left -= len(w.items[0].text)
		done = append(done, w.items[0])
		w.items = w.items[1:]
	}
	w.sent = left
	return data, done
}

// send plays a chunk on a wire, and lays what is done by it beside what went out.
func (p *sender) send(conn int) {
	w := &p.wires[conn]
	data, done := p.chunk(w)
	p.script = append(p.script, bytesOn(conn, data))
	if w.isShut {
		*w = wire{isShut: true}
		return
	}
	for i, one := range done {
		if one.isLast {
			done = done[:i+1]
			*w = wire{isShut: true}
			break
		}
	}
	p.lay(conn, done)
}

// lay tells what is wanted for the answers of the last step. If there are too few, the power has failed, and every wire begins anew.
func (p *sender) lay(conn int, done []item) {
	trace, err := world.Run(config, p.script)
	if err != nil {
		p.t.Fatal(err)
	}
	outs := trace.Outs[len(p.want):]
	for i, out := range outs {
		status, body := readAnswer(p.t, out.Text, "GET")
		if i >= len(done) || out.Conn != conn || out.Step != len(p.script)-1 || status != 500 && !strings.Contains(out.Text, done[i].mark) {
			p.t.Fatalf("the answer %q is none to what was sent", out.Text)
		}
		e := done[i].told
		e.Conn, e.At, e.Status, e.Bytes = conn, min(p.epoch+p.now, maxSeconds), status, len(body)
		p.want = append(p.want, e)
	}
	if len(outs) < len(done) {
		p.fails++
		p.wires = [16]wire{}
	}
}

// step plays any step.
func (p *sender) step() {
	conn := p.random.Intn(oneOf(p.random, 2, 16))
	switch p.random.Intn(12) {
	case 0:
		n := oneOf(p.random, p.random.Intn(20), -1, 0)
		p.now += max(n, 0)
		p.script = append(p.script, tick(n))
	case 1:
		p.wires[conn] = wire{}
		p.script = append(p.script, hangUp(conn))
	case 2:
		if p.random.Intn(3) == 0 {
			p.wires = [16]wire{}
			p.script = append(p.script, crash())
		}
	case 3:
		p.arms++
		p.script = append(p.script, draw(p.arms), arm(p.random.Intn(4)))
	case 4:
		p.arms++
		p.script = append(p.script, draw(p.arms), bytesOn(oneOf(p.random, -1, 16), nonsense))
	default:
		p.send(conn)
	}
}

// TestRunsByChance holds the logs of many runs against what their senders know.
func TestRunsByChance(t *testing.T) {
	random := rand.New(rand.NewSource(8))
	answers, fails := 0, 0
	for range 600 {
		p := &sender{t: t, random: random, epoch: oneOf(random, 0, 784111777, maxSeconds-random.Intn(60))}
		for range 10 + random.Intn(40) {
			p.step()
		}
		list, err := journal.Entries(p.epoch, config, p.script)
		if err != nil || len(list) != len(p.want) {
			t.Fatalf("P21.8: %d entries, %v, want %d", len(list), err, len(p.want))
		}
		for i, e := range list {
			if e != p.want[i] {
				t.Fatalf("P21.8: entry %d of %+v is %+v, want %+v", i, p.script, e, p.want[i])
			}
		}
		mustBeKept(t, list)
		answers, fails = answers+len(list), fails+p.fails
	}
	if answers < 5000 || fails < 100 {
		t.Errorf("only %d answers and %d failures came to pass", answers, fails)
	}
}
