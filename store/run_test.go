package store_test

import (
	"math/rand"
	"testing"

	"usher/api"
	"usher/disk"
	"usher/record"
	"usher/store"
)

// words is transactions of which runs are made. All of them speak of the same few things.
func words() [][]api.Record {
	c, d, k := id(1), id(2), id(3)
	return [][]api.Record{
		tx(code(c, anns, 1, "a", "b")),
		tx(redeemed(c)),
		tx(redeemed(c), token(k, c, anns, 2, "a")),
		tx(token(k, c, anns, 3, "b"), revoked(k)),
		tx(refresh(k, c, anns, 4, "a")),
		tx(turned(k), token(d, c, anns, 5, "a")),
		tx(revoked(k)),
		tx(burned(c)),
		tx(consent(anns, 6, "a"), code(d, anns, 6, "a")),
		tx(consent(anns, 7, "b")),
		tx(withdrawn(anns)),
		tx(session(d, "ann", 8)),
		tx(ended(d)),
		tx(session(k, "bob", 9), ended(k), ended(d)),
	}
}

// TestAllShortRuns takes all runs of four transactions, and opens behind each.
func TestAllShortRuns(t *testing.T) {
	list := words()
	for n := range len(list) * len(list) * len(list) * len(list) {
		v := newLife(t, room)
		for range 4 {
			v.commit(list[n%len(list)]...)
			n /= len(list)
		}
		v.openAtLast()
	}
}

// TestAllShortLives takes all runs of five steps, power failures among them.
func TestAllShortLives(t *testing.T) {
	list := words()
	steps := []func(v *life){
		func(v *life) { v.commit(list[0]...) },
		func(v *life) { v.commit(list[2]...) },
		func(v *life) { v.commit(list[8]...) },
		func(v *life) { v.commit(list[10]...) },
		func(v *life) { v.open() },
		func(v *life) { v.revive() },
		func(v *life) { v.crash(0) },
		func(v *life) { v.arm(0, 1000) },
		func(v *life) { v.arm(0, 40) },
		func(v *life) { v.arm(1, 0) },
	}
	for n := range 100000 {
		v := newLife(t, room)
		for range 5 {
			steps[n%10](v)
			n /= 10
		}
		v.openAtLast()
	}
}

// TestLongLives are made by chance, on disks that are small or great; what applied and what did not is counted, so that it is seen that all of it was met.
func TestLongLives(t *testing.T) {
	random := rand.New(rand.NewSource(15))
	applied, refused := map[int]int{}, map[error]int{}
	found, dropped := 0, 0
	for range 500 {
		v := newLife(t, 1000+random.Intn(10000))
		for range 60 {
			switch random.Intn(30) {
			case 0:
				v.crash(random.Intn(300) - 2)
			case 1, 2:
				v.arm(random.Intn(6), random.Intn(300)-2)
			case 3:
				v.revive()
			case 4, 5, 6, 7:
				wasUnderWay, had := len(v.perhaps) > 0, len(v.sure)
				v.openAtLast()
				if wasUnderWay && len(v.sure) > had {
					found++
				} else if wasUnderWay {
					dropped++
				}
			default:
				tx := drawnTransaction(random, v.sure)
				err := v.commit(tx...)
				refused[err]++
				for _, r := range tx {
					if err == nil {
						applied[r.Kind]++
					}
				}
			}
		}
		v.openAtLast()
		mustKeep(t, v.store, v.sure.state())
	}
	for kind := api.RecSession; kind <= api.RecWithdrawn; kind++ {
		if applied[kind] < 50 {
			t.Errorf("records of kind %d applied %d times: too few to tell", kind, applied[kind])
		}
	}
	for _, err := range []error{nil, api.ErrTaken, api.ErrLost, api.ErrFull, api.ErrDead} {
		if refused[err] < 100 {
			t.Errorf("%v was answered %d times: too few to tell", err, refused[err])
		}
	}
	if found < 20 || dropped < 20 {
		t.Errorf("what was under way was found %d times and not found %d times: too few to tell", found, dropped)
	}
}

// drawnTransaction is one to four records; mostly such as apply.
func drawnTransaction(random *rand.Rand, m model) []api.Record {
	var l []api.Record
	for range 1 + random.Intn(4) {
		r := drawnRecord(random, m)
		for tries := random.Intn(30); tries > 0; tries-- {
			if next, err := m.with(tx(r)); err == nil {
				m = next
				break
			}
			r = drawnRecord(random, m)
		}
		l = append(l, r)
	}
	return l
}

// drawnRecord speaks of few things, so that it often names one that is there.
func drawnRecord(random *rand.Rand, m model) api.Record {
	name := func() string { return id(byte(random.Intn(60))) }
	w := who{[]string{"ann", "bob"}[random.Intn(2)], []string{"app", "web"}[random.Intn(2)]}
	kinds := []int{1, 2, 3, 4, 4, 5, 5, 5, 6, 6, 6, 6, 6, 7, 7, 7, 8, 9, 9, 9, 9, 9, 10, 10, 10, 11}
	scopes := [][]string{{"a"}, {"b"}, {"a", "b"}, {"a", "c"}, {"a", "b", "c"}}[random.Intn(5)]
	at := random.Intn(1 << (1 + random.Intn(40)))
	switch kind := kinds[random.Intn(len(kinds))]; kind {
	case api.RecSession:
		return session(name(), w.user, at)
	case api.RecConsent:
		return consent(w, at, scopes...)
	case api.RecCode:
		return code(name(), w, at, scopes...)
	case api.RecToken, api.RecRefresh:
		parent := name()
		if c, ok := drawnThing(random, m); ok && c.Kind == api.RecCode { // one that is there, so that it often fits
			parent, w = c.ID, who{c.User, c.Client}
		}
		return api.Record{Kind: kind, ID: name(), Code: parent, User: w.user, Client: w.client, Scopes: scopes, At: at}
	case api.RecWithdrawn:
		return withdrawn(w)
	default:
		if r, ok := drawnThing(random, m); ok {
			return api.Record{Kind: kind, ID: r.ID}
		}
		return api.Record{Kind: kind, ID: name()}
	}
}

// drawnThing is, mostly, a record of the model that names an identifier.
func drawnThing(random *rand.Rand, m model) (api.Record, bool) {
	if len(m) == 0 || random.Intn(5) == 0 {
		return api.Record{}, false
	}
	r := m[random.Intn(len(m))]
	return r, r.ID != ""
}

// TestDrawnLogs: transactions laid on a disk by hand, of which one may not apply, are found or refused as the model says.
func TestDrawnLogs(t *testing.T) {
	random := rand.New(rand.NewSource(16))
	good, bad := 0, 0
	for range 3000 {
		var m model
		var data []byte
		var reason error
		for range random.Intn(8) {
			tx := drawnTransaction(random, m)
			data = append(data, frame(tx)...)
			if next, err := m.with(tx); err == nil {
				m = next
			} else {
				reason = api.ErrLog
			}
		}
		d := open(data)
		if reason != nil {
			mustBeNoLog(t, d, data)
			bad++
			continue
		}
		mustKeep(t, mustOpen(t, d), m.state())
		good++
	}
	if good < 300 || bad < 300 {
		t.Errorf("%d logs that can be played and %d that cannot: too few to tell", good, bad)
	}
}

// TestNoPanics: whatever lies on the disk, whatever is committed, and whatever else has written to the disk since.
func TestNoPanics(t *testing.T) {
	random := rand.New(rand.NewSource(17))
	for range 3000 {
		d := open(drawnBytes(random))
		s, err := store.Open(d)
		if (s == nil) == (err == nil) || err != nil && err != api.ErrLog {
			t.Fatalf("P15.1: Open = %v, %v", s, err)
		}
		if s == nil {
			continue
		}
		for range 10 {
			switch random.Intn(4) {
			case 0:
				d.Append(drawnBytes(random))
			case 1:
				d.Truncate(random.Intn(40))
			default:
				s.Commit(drawnRecords(random))
			}
			ask(s)
		}
	}
}

// drawnBytes is noise, or sound frames of noise, or of transactions with a byte changed.
func drawnBytes(random *rand.Rand) []byte {
	var data []byte
	for range random.Intn(4) {
		noise := make([]byte, 1+random.Intn(60))
		random.Read(noise)
		switch random.Intn(4) {
		case 0:
			data = append(data, noise...)
		case 1:
			data = append(data, frameOf(noise)...)
		default:
			payload, _ := record.Pack(drawnTransaction(random, nil))
			if random.Intn(3) == 0 {
				payload[random.Intn(len(payload))] = noise[0]
			}
			data = append(data, frameOf(payload)...)
		}
	}
	return data
}

// drawnRecords is any number of records of any kind with anything in any field.
func drawnRecords(random *rand.Rand) []api.Record {
	texts := []string{"", "ann", "app", id(1), id(2), address, challenge, "\xff\x00", string(make([]byte, 100))}
	text := func() string { return texts[random.Intn(len(texts))] }
	l := make([]api.Record, random.Intn(6))
	for i := range l {
		if random.Intn(2) == 0 {
			l[i] = drawnRecord(random, nil)
			continue
		}
		l[i] = api.Record{
			Kind: random.Intn(14) - 1, ID: text(), User: text(), Client: text(), Redirect: text(), Challenge: text(), Code: text(),
			Scopes: texts[:random.Intn(len(texts))], At: random.Intn(100) - 10,
		}
	}
	return l
}

// TestAStoreWhoseDiskWasChanged goes on without a panic: of its answers nothing is promised.
func TestAStoreWhoseDiskWasChanged(t *testing.T) {
	for _, change := range []func(d *disk.Disk){
		func(d *disk.Disk) { d.Truncate(0) },
		func(d *disk.Disk) { d.Truncate(10) },
		func(d *disk.Disk) { d.Append([]byte("more")) },
		func(d *disk.Disk) { d.Append(frameOf([]byte("no records"))) },
		func(d *disk.Disk) {
			s, _ := store.Open(d)
			s.Commit(tx(ended(aSession)))
		},
	} {
		s, d := begun(t, estate()...)
		change(d)
		for _, tx := range changes() {
			s.Commit(tx)
			ask(s)
		}
		store.Open(d)
	}
}
