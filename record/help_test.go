package record_test

import (
	"bytes"
	"encoding/binary"
	"math"
	"math/rand"
	"reflect"
	"regexp"
	"slices"
	"strings"
	"testing"

	"usher/api"
	"usher/record"
	"usher/terms"
)

var (
	zeroID  = strings.Repeat("A", 43)
	otherID = "A" + strings.Repeat("_", 41) + "8"
	proof   = strings.Repeat("c", 43)
)

// layouts is, for each kind, the fields that it names, in the order in which they lie in bytes.
var layouts = map[int][]string{
	1:  {"ID", "User", "At"},
	2:  {"ID"},
	3:  {"Client", "Scopes", "User", "At"},
	4:  {"ID", "Redirect", "Challenge", "Client", "Scopes", "User", "At"},
	5:  {"ID"},
	6:  {"ID", "Code", "Client", "Scopes", "User", "At"},
	7:  {"ID"},
	8:  {"ID"},
	9:  {"ID", "Code", "Client", "Scopes", "User", "At"},
	10: {"ID"},
	11: {"Client", "User"},
}

// allFields is every field of a record but its kind.
var allFields = []string{"ID", "User", "Client", "Redirect", "Challenge", "Code", "Scopes", "At"}

// The chapter's words as expressions. A byte from 0x80 on is a rune that none of them lets through.
var (
	wholeID    = regexp.MustCompile(`\A[A-Za-z0-9_-]{42}[AEIMQUYcgkosw048]\z`)
	wholeName  = regexp.MustCompile(`\A[!-~]{1,64}\z`)
	wholeScope = regexp.MustCompile(`\A[!#-\[\]-~]{1,32}\z`)
	wholeProof = regexp.MustCompile(`\A[A-Za-z0-9\-._~]{43,128}\z`)
)

// usual is an ordinary value of each field.
func usual(field string) any {
	return map[string]any{
		"ID": zeroID, "User": "ann", "Client": "app", "Redirect": "https://a.example/cb",
		"Challenge": proof, "Code": otherID, "Scopes": []string{"read", "write"}, "At": 300,
	}[field]
}

// greatest is the longest or greatest value of each field.
func greatest(field string) any {
	return map[string]any{
		"ID": otherID, "User": strings.Repeat("u", 64), "Client": strings.Repeat("k", 64),
		"Redirect": longAddress(512), "Challenge": strings.Repeat("c", 128), "Code": otherID,
		"Scopes": longScopes(16, 32), "At": 1 << 40,
	}[field]
}

func longAddress(size int) string {
	const head = "https://a.example/"
	return head + strings.Repeat("p", size-len(head))
}

// longScopes is so many scopes of so many bytes, rising.
func longScopes(count, size int) []string {
	list := make([]string, count)
	for i := range list {
		list[i] = string(rune('a'+i)) + strings.Repeat("s", size-1)
	}
	return list
}

// made is a record of that kind with all its fields, and no others.
func made(kind int, value func(field string) any) api.Record {
	r := api.Record{Kind: kind}
	for _, field := range layouts[kind] {
		r = with(r, field, value(field))
	}
	return r
}

// with is r with that value in that field.
func with(r api.Record, field string, value any) api.Record {
	reflect.ValueOf(&r).Elem().FieldByName(field).Set(reflect.ValueOf(value))
	return r
}

func get(r api.Record, field string) any {
	return reflect.ValueOf(r).FieldByName(field).Interface()
}

func usualRecords() []api.Record {
	var list []api.Record
	for kind := 1; kind <= 11; kind++ {
		list = append(list, made(kind, usual))
	}
	return list
}

func greatestRecords() []api.Record {
	var list []api.Record
	for kind := 1; kind <= 11; kind++ {
		list = append(list, made(kind, greatest))
	}
	return list
}

// modelFits: may this value stand in this field, where a kind names it?
func modelFits(field string, value any) bool {
	switch field {
	case "ID", "Code":
		return wholeID.MatchString(value.(string))
	case "User", "Client":
		return wholeName.MatchString(value.(string))
	case "Redirect":
		return terms.Redirect(value.(string))
	case "Challenge":
		return wholeProof.MatchString(value.(string))
	case "At":
		return value.(int) >= 0 && value.(int) <= 1<<40
	}
	list := value.([]string)
	rising := slices.Clone(list)
	slices.Sort(rising)
	return len(list) >= 1 && len(list) <= 16 && len(slices.Compact(rising)) == len(list) && slices.Equal(rising, list) &&
		!slices.ContainsFunc(list, func(s string) bool { return !wholeScope.MatchString(s) })
}

// modelCheck: may r be so, by the table of layouts and the expressions?
func modelCheck(r api.Record) bool {
	named, ok := layouts[r.Kind]
	if !ok {
		return false
	}
	for _, field := range allFields {
		value := reflect.ValueOf(r).FieldByName(field)
		isEmpty := value.IsZero() || value.Kind() == reflect.Slice && value.Len() == 0
		if slices.Contains(named, field) && !modelFits(field, value.Interface()) || !slices.Contains(named, field) && !isEmpty {
			return false
		}
	}
	return true
}

// modelWrite writes r as its layout says, whether it may be so or not.
func modelWrite(r api.Record) []byte {
	out := []byte{byte(r.Kind)}
	for _, field := range layouts[r.Kind] {
		switch value := get(r, field).(type) {
		case string:
			out = appendText(out, value)
		case []string:
			out = binary.AppendUvarint(out, uint64(len(value)))
			for _, text := range value {
				out = appendText(out, text)
			}
		case int:
			out = binary.AppendUvarint(out, uint64(value))
		}
	}
	return out
}

func appendText(out []byte, text string) []byte {
	return append(binary.AppendUvarint(out, uint64(len(text))), text...)
}

func modelPack(l []api.Record) []byte {
	out := []byte{byte(len(l))}
	for _, r := range l {
		out = appendText(out, string(modelWrite(r)))
	}
	return out
}

// modelReader reads whatever it finds, in any spelling, and never past the end: what it finds is written anew and held against the bytes.
type modelReader struct{ *bytes.Reader }

func (m modelReader) number() int {
	n, err := binary.ReadUvarint(m)
	if err != nil || n > math.MaxInt {
		return -1
	}
	return int(n)
}

func (m modelReader) text() string {
	text := make([]byte, max(0, min(m.number(), m.Len())))
	m.Read(text)
	return string(text)
}

func (m modelReader) list() []string {
	var list []string
	for count := m.number(); count > 0 && m.Len() > 0; count-- {
		list = append(list, m.text())
	}
	return list
}

// modelRead is the record that is written as p, if there is one.
func modelRead(p []byte) (api.Record, bool) {
	from := modelReader{bytes.NewReader(p)}
	kind, _ := from.ReadByte()
	r := api.Record{Kind: int(kind)}
	for _, field := range layouts[r.Kind] {
		switch get(r, field).(type) {
		case string:
			r = with(r, field, from.text())
		case []string:
			r = with(r, field, from.list())
		case int:
			r = with(r, field, from.number())
		}
	}
	if !modelCheck(r) || !bytes.Equal(modelWrite(r), p) {
		return api.Record{}, false
	}
	return r, true
}

// modelUnpack is the transaction that is written as p, if there is one.
func modelUnpack(p []byte) ([]api.Record, bool) {
	from := modelReader{bytes.NewReader(p)}
	var l []api.Record
	for count := from.number(); count > 0 && len(l) < 5 && from.Len() > 0; count-- {
		r, ok := modelRead([]byte(from.text()))
		if !ok {
			return nil, false
		}
		l = append(l, r)
	}
	if len(l) < 1 || len(l) > 4 || !bytes.Equal(modelPack(l), p) {
		return nil, false
	}
	return l, true
}

// same takes a list without elements for nil.
func same(a, b api.Record) bool {
	return reflect.DeepEqual(plain(a), plain(b))
}

func plain(r api.Record) api.Record {
	r.Scopes = append([]string(nil), r.Scopes...)
	return r
}

func sameAll(a, b []api.Record) bool {
	return slices.EqualFunc(a, b, same)
}

// isNothing: is r the zero record, its list without elements?
func isNothing(r api.Record) bool { return same(r, api.Record{}) }

// join puts bytes and texts one behind the other: an int is a byte.
func join(parts ...any) []byte {
	var out []byte
	for _, part := range parts {
		switch part := part.(type) {
		case int:
			out = append(out, byte(part))
		case string:
			out = append(out, part...)
		case []byte:
			out = append(out, part...)
		}
	}
	return out
}

func everyByte() string {
	b := make([]byte, 256)
	for i := range b {
		b[i] = byte(i)
	}
	return string(b)
}

// noise is size bytes out of those of from.
func noise(random *rand.Rand, from string, size int) string {
	b := make([]byte, size)
	for i := range b {
		b[i] = from[random.Intn(len(from))]
	}
	return string(b)
}

// mustTake fails unless r may be so, is written as the model writes it, and is read back out of that.
func mustTake(t *testing.T, r api.Record) {
	t.Helper()
	mustWrite(t, r, modelWrite(r))
}

// mustWrite fails unless r may be so, is written as these bytes, and is read back out of them.
func mustWrite(t *testing.T, r api.Record, want []byte) {
	t.Helper()
	if err := record.Check(r); err != nil {
		t.Fatalf("P14.1: Check(%.300v) = %v, want nil", r, err)
	}
	if got, err := record.Encode(r); !bytes.Equal(got, want) || err != nil {
		t.Fatalf("P14.2: Encode(%.300v) = %.300v, %v, want %.300v", r, got, err, want)
	}
	if got, err := record.Decode(want); !same(got, r) || err != nil {
		t.Fatalf("P14.3: Decode(%.300v) = %.300v, %v, want %.300v", want, got, err, r)
	}
	mustPack(t, []api.Record{r}, join(binary.AppendUvarint([]byte{1}, uint64(len(want))), want))
}

// mustNotTake fails unless r may not be so, for every call.
func mustNotTake(t *testing.T, r api.Record) {
	t.Helper()
	if err := record.Check(r); err != api.ErrArg {
		t.Fatalf("P14.1: Check(%.300v) = %v, want ErrArg", r, err)
	}
	if got, err := record.Encode(r); len(got) != 0 || err != api.ErrArg {
		t.Fatalf("P14.2: Encode(%.300v) = %.300v, %v, want nothing and ErrArg", r, got, err)
	}
	mustNotPack(t, []api.Record{r}, api.ErrArg)
	if len(layouts[r.Kind]) > 0 && modelHides(r) {
		mustNotRead(t, modelWrite(r))
	}
}

// modelHides: is there no record that is written as the model writes r? (What stands in a field that the kind does not name is not written, so another record may be.)
func modelHides(r api.Record) bool {
	_, ok := modelRead(modelWrite(r))
	return !ok
}

func mustNotRead(t *testing.T, p []byte) {
	t.Helper()
	if got, err := record.Decode(p); !isNothing(got) || err != api.ErrText {
		t.Fatalf("P14.3: Decode(%.300v) = %.300v, %v, want nothing and ErrText", p, got, err)
	}
	mustNotUnpack(t, join(binary.AppendUvarint([]byte{1}, uint64(len(p))), p))
}

func mustPack(t *testing.T, l []api.Record, want []byte) {
	t.Helper()
	if got, err := record.Pack(l); !bytes.Equal(got, want) || err != nil {
		t.Fatalf("P14.4: Pack(%.300v) = %.300v, %v, want %.300v", l, got, err, want)
	}
	if got, err := record.Unpack(want); !sameAll(got, l) || err != nil {
		t.Fatalf("P14.5: Unpack(%.300v) = %.300v, %v, want %.300v", want, got, err, l)
	}
}

func mustNotPack(t *testing.T, l []api.Record, want error) {
	t.Helper()
	if got, err := record.Pack(l); len(got) != 0 || err != want {
		t.Fatalf("P14.4: Pack(%.300v) = %.300v, %v, want nothing and %v", l, got, err, want)
	}
}

func mustNotUnpack(t *testing.T, p []byte) {
	t.Helper()
	if got, err := record.Unpack(p); len(got) != 0 || err != api.ErrText {
		t.Fatalf("P14.5: Unpack(%.300v) = %.300v, %v, want nothing and ErrText", p, got, err)
	}
}

// mustAgree fails unless Decode and Unpack find in p what the models find there.
func mustAgree(t *testing.T, p []byte) {
	t.Helper()
	if want, ok := modelRead(p); ok {
		mustWrite(t, want, p)
	} else if got, err := record.Decode(p); !isNothing(got) || err != api.ErrText {
		t.Fatalf("P14.3: Decode(%.300v) = %.300v, %v, want nothing and ErrText", p, got, err)
	}
	if want, ok := modelUnpack(p); ok {
		mustPack(t, want, p)
	} else {
		mustNotUnpack(t, p)
	}
}
