package record_test

import (
	"math/rand"
	"slices"
	"sort"
	"strings"
	"testing"

	"usher/api"
	"usher/record"
)

// TestEveryByteChanged puts every byte into every place, takes each out and puts some in, and holds what is read against the model.
func TestEveryByteChanged(t *testing.T) {
	list := usualRecords()
	r := made(4, usual)
	r.Scopes, r.At = longScopes(16, 1), 1<<40
	for _, r := range append(list, r) {
		p := modelWrite(r)
		for at := range p {
			changed := slices.Clone(p)
			for b := range 256 {
				changed[at] = byte(b)
				mustAgree(t, changed)
			}
			mustAgree(t, slices.Delete(slices.Clone(p), at, at+1))
			for _, b := range []byte{0, 1, 42, 43, 44, 'A', 128, 129, 255, p[at]} {
				mustAgree(t, slices.Insert(slices.Clone(p), at, b))
			}
		}
	}
}

func TestEveryByteOfATransactionChanged(t *testing.T) {
	u := usualRecords()
	for _, l := range [][]api.Record{{u[4]}, {u[2], u[3]}, {u[10], u[4], u[7], u[10]}} {
		p := modelPack(l)
		for at := range p {
			changed := slices.Clone(p)
			for b := range 256 {
				changed[at] = byte(b)
				mustAgree(t, changed)
			}
			mustAgree(t, slices.Delete(slices.Clone(p), at, at+1))
			for _, b := range []byte{0, 1, 44, 45, 46, 128, p[at]} {
				mustAgree(t, slices.Insert(slices.Clone(p), at, b))
			}
		}
	}
}

// drawnField is a value for a field: mostly one that may be.
func drawnField(random *rand.Rand, field string) any {
	const letters = "ABab09-_"
	wrong := random.Intn(40) == 0
	switch field {
	case "ID", "Code":
		if wrong {
			return noise(random, letters, 40+random.Intn(6))
		}
		return noise(random, letters, 42) + noise(random, "AEIMQUYcgkosw048", 1)
	case "User", "Client":
		if wrong {
			return noise(random, "a ", random.Intn(70))
		}
		return noise(random, "ab!~", 1+random.Intn(64))
	case "Redirect":
		if wrong {
			return noise(random, "https:/a.", random.Intn(20))
		}
		return longAddress(18 + random.Intn(random.Intn(494)+1))
	case "Challenge":
		if wrong {
			return noise(random, "a+", 40+random.Intn(100))
		}
		return noise(random, "a-._~", 43+random.Intn(86))
	case "Scopes":
		return drawnScopes(random, wrong)
	}
	if wrong {
		return random.Intn(1<<42) - 1<<40
	}
	return random.Intn(1 << (1 + random.Intn(40)))
}

func drawnScopes(random *rand.Rand, wrong bool) []string {
	list := make([]string, 1+random.Intn(16))
	for i := range list {
		list[i] = noise(random, "ab#~", 1+random.Intn(32))
	}
	if !wrong {
		sort.Strings(list)
		list = slices.Compact(list)
	}
	return list
}

func drawnRecord(random *rand.Rand) api.Record {
	kind := 1 + random.Intn(11)
	if random.Intn(100) == 0 {
		kind = random.Intn(20) - 4
	}
	r := api.Record{Kind: kind}
	for _, field := range layouts[kind] {
		r = with(r, field, drawnField(random, field))
	}
	if random.Intn(40) == 0 {
		field := allFields[random.Intn(len(allFields))]
		r = with(r, field, drawnField(random, field))
	}
	return r
}

// TestDrawnRecords: those that may be are written as the model writes them and read back, the others are refused.
func TestDrawnRecords(t *testing.T) {
	random := rand.New(rand.NewSource(14))
	good, bad := 0, 0
	for range 20000 {
		r := drawnRecord(random)
		if modelCheck(r) {
			mustTake(t, r)
			good++
		} else {
			mustNotTake(t, r)
			bad++
		}
	}
	if good < 5000 || bad < 500 {
		t.Errorf("%d records that may be and %d that may not: too few to tell", good, bad)
	}
}

func TestDrawnTransactions(t *testing.T) {
	random := rand.New(rand.NewSource(15))
	for range 10000 {
		l := make([]api.Record, random.Intn(7))
		mayBe := len(l) > 0
		for i := range l {
			l[i] = drawnRecord(random)
			mayBe = mayBe && modelCheck(l[i])
		}
		switch {
		case len(l) > 4:
			mustNotPack(t, l, api.ErrMany)
		case mayBe:
			mustPack(t, l, modelPack(l))
		default:
			mustNotPack(t, l, api.ErrArg)
		}
	}
}

// TestDrawnBytes: bytes of all sorts, and records and transactions with some bytes changed.
func TestDrawnBytes(t *testing.T) {
	random := rand.New(rand.NewSource(16))
	few := "\x00\x01\x02\x03\x04\x05\x06\x09\x0b\x2b\x2d\x80\x81\xab\xffAa"
	for range 20000 {
		mustAgree(t, []byte(noise(random, few, random.Intn(60))))
		mustAgree(t, []byte(noise(random, everyByte(), random.Intn(60))))
		p := modelPack([]api.Record{drawnRecord(random), drawnRecord(random)}[:1+random.Intn(2)])
		for range random.Intn(3) {
			p[random.Intn(len(p))] = few[random.Intn(len(few))]
		}
		mustAgree(t, p)
	}
}

// TestAllShortBytes: of one and of two bytes, all of them.
func TestAllShortBytes(t *testing.T) {
	mustAgree(t, nil)
	mustAgree(t, []byte{})
	for a := range 256 {
		mustAgree(t, []byte{byte(a)})
		for b := range 256 {
			mustAgree(t, []byte{byte(a), byte(b)})
		}
	}
}

// TestNoneBeginsAnother sorts the bytes of many records: one that begins another would stand ahead of it, with nothing between them that it does not begin.
func TestNoneBeginsAnother(t *testing.T) {
	random := rand.New(rand.NewSource(17))
	records := map[string]api.Record{}
	packed := map[string][]api.Record{}
	for _, r := range manyRecords(random) {
		p, err := record.Encode(r)
		if err != nil {
			continue
		}
		if other, ok := records[string(p)]; ok && !same(other, r) {
			t.Fatalf("P14.6: %v and %v are written as the same bytes", other, r)
		}
		records[string(p)] = r
		for _, l := range [][]api.Record{{r}, {r, r}, {made(5, usual), r}, {r, made(5, usual), r}, {r, r, r, r}} {
			p, _ := record.Pack(l)
			if other, ok := packed[string(p)]; ok && !sameAll(other, l) {
				t.Fatalf("P14.6: %v and %v are written as the same bytes", other, l)
			}
			packed[string(p)] = l
		}
	}
	mustNotBegin(t, records)
	mustNotBegin(t, packed)
}

func manyRecords(random *rand.Rand) []api.Record {
	list := everyRecord()
	for _, r := range everyRecord() {
		for _, field := range layouts[r.Kind] {
			for _, value := range []func(string) any{usual, greatest} {
				list = append(list, with(r, field, value(field)))
			}
		}
		if r.Kind == 1 {
			for at := range 20000 {
				list = append(list, with(r, "At", at))
			}
		}
	}
	for range 5000 {
		list = append(list, drawnRecord(random))
	}
	return list
}

func mustNotBegin[T any](t *testing.T, written map[string]T) {
	t.Helper()
	var all []string
	for p := range written {
		all = append(all, p)
	}
	sort.Strings(all)
	for i := range len(all) - 1 {
		if strings.HasPrefix(all[i+1], all[i]) {
			t.Errorf("P14.6: %x stands at the beginning of %x", all[i], all[i+1])
		}
	}
}

// TestReadAndWrittenAnew: what is read is written as the same bytes, and what is written is read as the same record.
func TestReadAndWrittenAnew(t *testing.T) {
	for _, r := range everyRecord() {
		p, _ := record.Encode(r)
		back, err := record.Decode(p)
		again, err2 := record.Encode(back)
		if !same(back, r) || string(again) != string(p) || err != nil || err2 != nil {
			t.Errorf("P14.3: %v is read back as %v, %v, and written as %v, %v", r, back, err, again, err2)
		}
	}
	for _, l := range transactions() {
		p, _ := record.Pack(l)
		back, err := record.Unpack(p)
		again, err2 := record.Pack(back)
		if !sameAll(back, l) || string(again) != string(p) || err != nil || err2 != nil {
			t.Errorf("P14.5: %v is read back as %v, %v, and written as %v, %v", l, back, err, again, err2)
		}
	}
}
