package audit_test

import (
	"bytes"
	"encoding/binary"
	"fmt"
	"math/rand"
	"slices"
	"strings"
	"testing"

	"usher/api"
	"usher/audit"
	"usher/disk"
	"usher/store"
)

// pieces is what short logs are made of: transactions that speak of the same few things, and what is none.
func pieces() [][]byte {
	c, d, k := id(1), id(2), id(3)
	return [][]byte{
		row(tx(code(c, anns, 1, "a", "b"))),
		row(tx(redeemed(c), token(k, c, anns, 2, "a"))),
		row(tx(refresh(d, c, anns, 4, "a"), turned(d))),
		row(tx(revoked(k))),
		row(tx(burned(c))),
		row(tx(consent(anns, 6, "a"), code(d, anns, 6, "a"), redeemed(d))),
		row(tx(withdrawn(anns))),
		row(tx(session(d, "ann", 8))),
		row(tx(ended(d), session(k, "bob", 9))),
		frameOf([]byte("no transaction")),
		[]byte("torn"),
		nil,
	}
}

// TestAllShortLogs takes all logs of up to four pieces.
func TestAllShortLogs(t *testing.T) {
	list := pieces()
	met := map[int]int{}
	for n := range len(list) * len(list) * len(list) * len(list) {
		var data []byte
		for range 4 {
			data = append(data, list[n%len(list)]...)
			n /= len(list)
		}
		met[mustSee(t, data).Fault]++
	}
	mustBeMet(t, met, 50)
}

// mustBeMet fails if a fault was met less than so many times.
func mustBeMet(t *testing.T, met map[int]int, least int) {
	t.Helper()
	for fault := api.FaultNone; fault <= api.FaultLost; fault++ {
		if met[fault] < least {
			t.Errorf("the fault %d was met %d times: too few to tell", fault, met[fault])
		}
	}
}

// TestAllShortTexts takes all rows of up to five of some lines.
func TestAllShortTexts(t *testing.T) {
	list := []string{"transaction 1", "transaction 2", "transaction 0", sessionLine, endedLine, "session " + fresh2 + " bob 7", "ended " + fresh2, ""}
	met := map[error]int{}
	var grow func(lines []string)
	grow = func(lines []string) {
		met[mustLoad(t, lines...)]++
		if len(lines) == 5 {
			return
		}
		for _, line := range list {
			grow(append(slices.Clip(lines), line))
		}
	}
	grow(nil)
	if met[nil] < 15 || met[api.ErrLog] < 15 || met[api.ErrText] < 100 {
		t.Errorf("answered %v times: too few to tell", met)
	}
}

// drawnTransaction is one to four records by chance, of which many apply.
func drawnTransaction(random *rand.Rand, m model) []api.Record {
	var l []api.Record
	for range 1 + random.Intn(4) {
		r := drawnRecord(random, m)
		for range random.Intn(30) {
			if next, ok := m.with(tx(r)); ok {
				m = next
				break
			}
			r = drawnRecord(random, m)
		}
		l = append(l, r)
	}
	return l
}

// drawnRecord speaks of few things, so that it often names one that is there.
func drawnRecord(random *rand.Rand, m model) api.Record {
	name := func() string { return id(byte(random.Intn(60))) }
	w := who{oneOf(random, "ann", "bob"), oneOf(random, "app", "web")}
	scopes := oneOf(random, []string{"a"}, []string{"b"}, []string{"a", "b"}, []string{"a", "b", "c"})
	at := random.Intn(1 << (1 + random.Intn(40)))
	there := name()
	if len(m) > 0 && random.Intn(5) > 0 {
		if r := m[random.Intn(len(m))]; r.ID != "" {
			there = r.ID
			w = who{r.User, r.Client}
		}
	}
	if w.client == "" {
		w = anns
	}
	switch kind := oneOf(random, 1, 2, 3, 4, 4, 5, 5, 5, 6, 6, 6, 6, 7, 7, 7, 8, 9, 9, 9, 9, 10, 10, 10, 11); kind {
	case api.RecSession:
		return session(name(), w.user, at)
	case api.RecConsent:
		return consent(w, at, scopes...)
	case api.RecCode:
		return code(name(), w, at, scopes...)
	case api.RecToken:
		return token(name(), there, w, at, scopes...)
	case api.RecRefresh:
		return refresh(name(), there, w, at, scopes...)
	case api.RecWithdrawn:
		return withdrawn(w)
	default:
		return of(kind, there)
	}
}

// drawnLog is a log by chance: mostly transactions that apply, here and there something else.
func drawnLog(random *rand.Rand) []byte {
	var data []byte
	var m model
	for range random.Intn(40) {
		tx := drawnTransaction(random, m)
		next, ok := m.with(tx)
		if !ok && random.Intn(10) > 0 {
			continue
		}
		m = next
		payload := modelPack(tx)
		switch random.Intn(60) {
		case 0:
			data = append(data, noise(random, everyByte(), 1+random.Intn(30))...)
		case 1, 2:
			payload[random.Intn(len(payload))]++
		case 3:
			payload = payload[:1+random.Intn(len(payload))]
		}
		data = append(data, frameOf(payload)...)
		if random.Intn(60) == 0 {
			data[random.Intn(len(data))] ^= 1 << random.Intn(8)
		}
	}
	return data[:len(data)-random.Intn(1+min(len(data), 10*random.Intn(2)))]
}

// TestLogsByChance: what records were met, and what faults, is counted, so that it is seen that all of it was.
func TestLogsByChance(t *testing.T) {
	random := rand.New(rand.NewSource(25))
	met, kinds := map[int]int{}, [12]int{}
	for range 1500 {
		report := mustSee(t, drawnLog(random))
		met[report.Fault]++
		for kind, count := range report.Kinds {
			kinds[kind] += count
		}
	}
	mustBeMet(t, met, 200)
	for kind := 1; kind <= 11; kind++ {
		if kinds[kind] < 50 {
			t.Errorf("records of kind %d were met %d times: too few to tell", kind, kinds[kind])
		}
	}
}

// TestTextsByChance: lines of logs by chance, some of them changed.
func TestTextsByChance(t *testing.T) {
	random := rand.New(rand.NewSource(26))
	met := map[error]int{}
	for range 1500 {
		lines, _ := audit.Dump(drawnLog(random))
		if len(lines) == 0 {
			continue // nothing to be changed
		}
		at := random.Intn(len(lines))
		switch random.Intn(6) {
		case 0:
			lines = slices.Delete(lines, at, at+1)
		case 1:
			lines = slices.Insert(lines, at, lines[random.Intn(len(lines))])
		case 2:
			lines[at] = oneOf(random, lines...)
		case 3:
			lines[at] = strings.Replace(lines[at], oneOf(random, " ", "a", "1", "A"), oneOf(random, " ", "a", "2", "Q"), 1)
		case 4:
			lines = slices.Concat(lines[:at], lines[random.Intn(len(lines)):])
		}
		met[mustLoad(t, lines...)]++
	}
	if met[nil] < 100 || met[api.ErrLog] < 30 || met[api.ErrText] < 100 {
		t.Errorf("answered %v times: too few to tell", met)
	}
}

// TestBytesByChance are no logs, mostly.
func TestBytesByChance(t *testing.T) {
	random := rand.New(rand.NewSource(27))
	for range 2000 {
		mustSee(t, []byte(noise(random, everyByte(), random.Intn(300))))
		mustSee(t, []byte(noise(random, "\x00\x01\x02\xff", random.Intn(300))))
		mustSee(t, frameOf([]byte(noise(random, everyByte(), 1+random.Intn(300)))))
		mustSee(t, frameOf([]byte(noise(random, "\x00\x01\x02+AA", 1+random.Intn(300)))))
		mustRead(t, noise(random, everyByte(), random.Intn(100)))
		mustRead(t, oneOf(random, "session ", "ended ", "consent ", "token ")+noise(random, "Aa0 ", random.Intn(100)))
		mustLoad(t, noise(random, everyByte(), 5), noise(random, "transaction 1", 13))
	}
}

// numbered is the identifier of that number.
func numbered(number int) string {
	draw := make([]byte, 32)
	binary.BigEndian.PutUint64(draw[24:], uint64(number))
	return idOf(draw)
}

// longLog is so many lives of a session, a code, its token and its refresh token, in six transactions each.
func longLog(lives int) (data []byte, want [12]int) {
	for n := range lives {
		s, c, k, r := numbered(4*n), numbered(4*n+1), numbered(4*n+2), numbered(4*n+3)
		for _, tx := range [][]api.Record{
			tx(session(s, "ann", n)),
			tx(consent(anns, n, "a", "b"), code(c, anns, n, "a", "b")),
			tx(redeemed(c), token(k, c, anns, n, "a"), refresh(r, c, anns, n, "a", "b")),
			tx(turned(r)),
			tx(burned(c), revoked(k)),
			tx(ended(s)),
		} {
			data = append(data, row(tx)...)
			for _, r := range tx {
				want[r.Kind]++
			}
		}
	}
	return data, want
}

// TestLongLogs are looked through to the end, and to a fault near it.
func TestLongLogs(t *testing.T) {
	const lives = 3000
	data, kinds := longLog(lives)
	want := api.Report{Frames: 6 * lives, Good: len(data), Kinds: kinds, At: len(data)}
	if got := audit.Look(data); got != want {
		t.Fatalf("P25.1: Look of a long log = %+v, want %+v", got, want)
	}
	for fault, behind := range map[int][]byte{api.FaultTorn: data[1:], api.FaultText: join(frameOf([]byte{1}), data), api.FaultLost: data} {
		want.Torn, want.Fault = len(behind), fault
		if got, report := audit.Repair(join(data, behind)); report != want || !bytes.Equal(got, data) {
			t.Fatalf("P25.2: Repair of a long log = %+v, want %+v", report, want)
		}
	}
	lines, err := audit.Dump(join(data, data[:9]))
	if err != nil || len(lines) != 16*lives {
		t.Fatalf("P25.6: Dump of a long log = %d lines, %v", len(lines), err)
	}
	again, err := audit.Load(lines)
	if !bytes.Equal(again, data) || err != nil {
		t.Fatalf("P25.8: Load of the lines of a long log = %d bytes, %v", len(again), err)
	}
	if again, err := audit.Load(append(lines, "transaction 1", "ended "+numbered(0))); len(again) != 0 || err != api.ErrLog {
		t.Fatalf("P25.7: Load of too long a log = %d bytes, %v", len(again), err)
	}
	s, err := store.Open(disk.Open(again, api.MaxDisk))
	if err != nil || len(s.State().Tokens) != lives {
		t.Fatalf("P25.3: Open over a long log: %v", err)
	}
}

// TestAStoresLog: what a store has written through power failures and full disks has no fault but a torn tail, and says what the store keeps.
func TestAStoresLog(t *testing.T) {
	random := rand.New(rand.NewSource(28))
	torn := 0
	for range 80 {
		d := disk.New(2000 + random.Intn(5000))
		s, _ := store.Open(d)
		var m model
		for range 60 {
			if random.Intn(15) == 0 {
				d.Arm(random.Intn(3), random.Intn(200))
			}
			tx := drawnTransaction(random, m)
			if next, ok := m.with(tx); ok && s.Commit(tx) == nil {
				m = next
			}
			if !d.Dead() {
				continue
			}
			data, _ := d.Look()
			seen := modelLook(data)
			if mustSee(t, data).Fault == api.FaultTorn {
				torn++
			}
			d.Revive()
			for s, _ = store.Open(d); s == nil; s, _ = store.Open(d) {
				d.Revive()
			}
			if m = seen.row; !isSameState(s.State(), m.state()) {
				t.Fatalf("P25.3: behind a power failure the store keeps %s", fmt.Sprint(s.State()))
			}
		}
		data, _ := d.Look()
		mustSee(t, data)
	}
	if torn < 30 {
		t.Errorf("%d torn tails: too few to tell", torn)
	}
}
