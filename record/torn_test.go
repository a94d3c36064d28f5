package record_test

import (
	"bytes"
	"encoding/binary"
	"strings"
	"testing"

	"usher/api"
)

// everyRecord is the ordinary and the greatest of each kind, and the least.
func everyRecord() []api.Record {
	least := func(field string) any {
		return map[string]any{
			"ID": zeroID, "User": "u", "Client": "k", "Redirect": "a.:/", "Challenge": proof,
			"Code": zeroID, "Scopes": []string{"s"}, "At": 0,
		}[field]
	}
	list := append(usualRecords(), greatestRecords()...)
	for kind := 1; kind <= 11; kind++ {
		list = append(list, made(kind, least))
	}
	return list
}

// transactions is each record alone, and some of them together.
func transactions() [][]api.Record {
	var all [][]api.Record
	for _, r := range everyRecord() {
		all = append(all, []api.Record{r})
	}
	u, g := usualRecords(), greatestRecords()
	return append(all,
		[]api.Record{u[2], u[3]}, []api.Record{u[4], u[5], u[8]}, []api.Record{u[10], u[4], u[4], u[7]},
		[]api.Record{g[0], u[0]}, []api.Record{g[3], g[3], g[3], g[3]}, []api.Record{u[9], u[5], u[8]})
}

// TestRecordsThatEndEarly ends at every place within a record.
func TestRecordsThatEndEarly(t *testing.T) {
	for _, r := range everyRecord() {
		mustTake(t, r)
		p := modelWrite(r)
		for size := range p {
			mustNotRead(t, p[:size])
		}
	}
}

// TestTransactionsThatEndEarly ends at every place within a transaction.
func TestTransactionsThatEndEarly(t *testing.T) {
	for _, l := range transactions() {
		p := modelPack(l)
		mustPack(t, l, p)
		for size := range p {
			mustNotUnpack(t, p[:size])
		}
	}
}

// TestBytesBehindTheEnd: any one byte, or a whole record or transaction once more.
func TestBytesBehindTheEnd(t *testing.T) {
	for _, r := range everyRecord() {
		p := modelWrite(r)
		for _, b := range []byte(everyByte()) {
			mustNotRead(t, join(p, int(b)))
		}
		mustNotRead(t, join(p, p))
		mustNotRead(t, join(p, make([]byte, 100)))
	}
	for _, l := range transactions() {
		p := modelPack(l)
		for _, b := range []byte(everyByte()) {
			mustNotUnpack(t, join(p, int(b)))
		}
		mustNotUnpack(t, join(p, p))
		mustNotUnpack(t, join(p, p[1:]))
	}
}

// TestBytesAheadAreNoRecord: nothing is passed over.
func TestBytesAheadAreNoRecord(t *testing.T) {
	for _, r := range everyRecord() {
		p := modelWrite(r)
		for _, b := range []byte(everyByte()) {
			mustAgree(t, join(int(b), p))
		}
		mustNotRead(t, p[1:])
	}
}

// pieces is a record's bytes, each number alone, with what it counts behind it.
func pieces(r api.Record) (out [][]byte, numbers []int) {
	add := func(n int, text string) {
		numbers = append(numbers, len(out))
		out = append(out, binary.AppendUvarint(nil, uint64(n)), []byte(text))
	}
	out = append(out, []byte{byte(r.Kind)})
	for _, field := range layouts[r.Kind] {
		switch value := get(r, field).(type) {
		case string:
			add(len(value), value)
		case []string:
			add(len(value), "")
			for _, text := range value {
				add(len(text), text)
			}
		case int:
			out = append(out, binary.AppendUvarint(nil, uint64(value)))
		}
	}
	return out, numbers
}

// TestLengthsThatAreOff: each length of a text or a list is one too great, one too small, none, or far too great.
func TestLengthsThatAreOff(t *testing.T) {
	for _, r := range everyRecord() {
		all, numbers := pieces(r)
		if !bytes.Equal(bytes.Join(all, nil), modelWrite(r)) {
			t.Fatal("the pieces are not the record")
		}
		for _, place := range numbers {
			n, _ := binary.Uvarint(all[place])
			for _, wrong := range []uint64{n - 1, n + 1, 0, n + 128, n + 1<<32, n + 1<<62, 1<<63 - 1} {
				off := append([][]byte(nil), all...)
				off[place] = binary.AppendUvarint(nil, wrong)
				mustNotRead(t, bytes.Join(off, nil))
			}
		}
	}
}

// TestListsThatAreOff: a text too many or too few for the number of the list.
func TestListsThatAreOff(t *testing.T) {
	for _, kind := range []int{3, 4, 6, 9} {
		for count := 1; count <= 17; count++ {
			r := made(kind, usual)
			r.Scopes = longScopes(count, 2)
			for said := range 40 {
				p := modelWrite(r)
				at := bytes.Index(p, join(count, 2, r.Scopes[0]))
				p[at] = byte(said)
				if said == count && count <= 16 {
					mustWrite(t, r, p)
				} else {
					mustNotRead(t, p)
				}
			}
		}
	}
}

// TestLengthsOfRecordsThatAreOff: each length of a record, and the number of them.
func TestLengthsOfRecordsThatAreOff(t *testing.T) {
	for _, l := range transactions() {
		for place := range l {
			for _, off := range []int{-1, 1, 128, -44, 1 << 20} {
				var p []byte
				p = append(p, byte(len(l)))
				for i, r := range l {
					written := modelWrite(r)
					n := len(written)
					if i == place {
						n = max(0, n+off)
					}
					p = append(binary.AppendUvarint(p, uint64(n)), written...)
				}
				mustNotUnpack(t, p)
			}
		}
		for count := range 256 {
			p := modelPack(l)
			p[0] = byte(count)
			if count == len(l) {
				mustPack(t, l, p)
			} else {
				mustNotUnpack(t, p)
			}
		}
	}
}

// TestFieldsThatMayNotBe: the bytes are whole, but what comes out may not be so.
func TestFieldsThatMayNotBe(t *testing.T) {
	wrong := map[string][]any{
		"ID":        {"", zeroID[1:], zeroID + "A", zeroID[:42] + "B", zeroID[:42] + "+"},
		"Code":      {"", zeroID[1:], zeroID + "A", zeroID[:42] + "B", zeroID[:42] + "+"},
		"User":      {"", "a b", "\x7f", strings.Repeat("u", 65)},
		"Client":    {"", "a b", "\x7f", strings.Repeat("u", 65)},
		"Redirect":  {"", "http://a.example/", longAddress(513)},
		"Challenge": {"", proof[1:], strings.Repeat("c", 129), proof[1:] + "="},
		"Scopes":    {[]string{}, []string{""}, []string{"b", "a"}, []string{"a", "a"}, []string{"a b"}, longScopes(17, 1)},
		"At":        {1<<40 + 1, 1 << 62},
	}
	for kind, fields := range layouts {
		for _, field := range fields {
			for _, value := range wrong[field] {
				mustNotRead(t, modelWrite(with(made(kind, usual), field, value)))
			}
		}
	}
}

// TestEveryFirstByte: of all first bytes just the kinds of the same fields are a record.
func TestEveryFirstByte(t *testing.T) {
	for _, r := range everyRecord() {
		p := modelWrite(r)
		for first := range 256 {
			p[0] = byte(first)
			mustAgree(t, p)
		}
	}
}
