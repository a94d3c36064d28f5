package audit_test

import (
	"bytes"
	"encoding/base64"
	"math/rand"
	"reflect"
	"slices"
	"strings"
	"testing"

	"usher/api"
	"usher/audit"
	"usher/disk"
	"usher/store"
)

const (
	address  = "https://a.example/cb"
	lastTime = 1 << 40
)

var (
	zeroID    = strings.Repeat("A", 43)
	challenge = strings.Repeat("c", 43)
	anns      = who{"ann", "app"}
	bobs      = who{"bob", "web"}
)

// who is a user and a client.
type who struct{ user, client string }

// id is the identifier of 32 times that byte.
func id(b byte) string { return idOf(bytes.Repeat([]byte{b}, 32)) }

func idOf(draw []byte) string { return base64.RawURLEncoding.EncodeToString(draw) }

func session(id, user string, at int) api.Record {
	return api.Record{Kind: api.RecSession, ID: id, User: user, At: at}
}

func consent(w who, at int, scopes ...string) api.Record {
	return api.Record{Kind: api.RecConsent, User: w.user, Client: w.client, Scopes: scopes, At: at}
}

func code(id string, w who, at int, scopes ...string) api.Record {
	return api.Record{Kind: api.RecCode, ID: id, User: w.user, Client: w.client, Redirect: address, Challenge: challenge, Scopes: scopes, At: at}
}

func token(id, code string, w who, at int, scopes ...string) api.Record {
	return api.Record{Kind: api.RecToken, ID: id, Code: code, User: w.user, Client: w.client, Scopes: scopes, At: at}
}

func refresh(id, code string, w who, at int, scopes ...string) api.Record {
	return api.Record{Kind: api.RecRefresh, ID: id, Code: code, User: w.user, Client: w.client, Scopes: scopes, At: at}
}

// of is a record of a kind that names nothing but an identifier.
func of(kind int, id string) api.Record { return api.Record{Kind: kind, ID: id} }

func ended(id string) api.Record    { return of(api.RecEnded, id) }
func redeemed(id string) api.Record { return of(api.RecRedeemed, id) }
func revoked(id string) api.Record  { return of(api.RecRevoked, id) }
func burned(id string) api.Record   { return of(api.RecBurned, id) }
func turned(id string) api.Record   { return of(api.RecTurned, id) }

func withdrawn(w who) api.Record {
	return api.Record{Kind: api.RecWithdrawn, User: w.user, Client: w.client}
}

// tx is a transaction.
func tx(records ...api.Record) []api.Record { return records }

// The identifiers of estate. Those called fresh are nobody's.
var (
	aSession, anEnded         = id(1), id(2)
	unusedCode, usedCode      = id(11), id(12)
	burnedCode, withdrawnCode = id(13), id(14)
	aToken, aRevoked          = id(21), id(22)
	aRefresh, aTurned         = id(31), id(32)
	fresh, fresh2             = id(41), id(42)
)

// estate is transactions that apply one behind the other, with records of every kind; behind them there is something of every kind in every state.
func estate() [][]api.Record {
	return [][]api.Record{
		tx(session(aSession, "ann", 1), session(anEnded, "bob", 2), ended(anEnded)),
		tx(consent(anns, 3, "a", "b")),
		tx(code(unusedCode, anns, 4, "a", "b"), code(usedCode, anns, 5, "a", "b", "cc"), redeemed(usedCode)),
		tx(token(aToken, usedCode, anns, 6, "a"), refresh(aRefresh, usedCode, anns, 6, "a", "b")),
		tx(token(aRevoked, usedCode, anns, 7, "b"), revoked(aRevoked), refresh(aTurned, usedCode, anns, 7, "b"), turned(aTurned)),
		tx(code(burnedCode, anns, 8, "a"), redeemed(burnedCode), burned(burnedCode)),
		tx(consent(bobs, 9, "a"), code(withdrawnCode, bobs, 10, "a")),
		tx(withdrawn(bobs)),
	}
}

// row is transactions as a log.
func row(txs ...[]api.Record) []byte {
	var all []byte
	for _, tx := range txs {
		all = append(all, frameOf(modelPack(tx))...)
	}
	return all
}

func join(parts ...[]byte) []byte { return bytes.Join(parts, nil) }

// everyByte is the 256 bytes, rising.
func everyByte() string {
	b := make([]byte, 256)
	for i := range b {
		b[i] = byte(i)
	}
	return string(b)
}

// noise is size bytes out of those of from.
func noise(random *rand.Rand, from string, size int) string {
	b := make([]byte, size)
	for i := range b {
		b[i] = from[random.Intn(len(from))]
	}
	return string(b)
}

func oneOf[T any](random *rand.Rand, list ...T) T { return list[random.Intn(len(list))] }

// changedAt hands on each text that comes of s with a byte taken out, put in or changed, at every place, and each part of s.
func changedAt(s string, play func(string)) {
	for at := range len(s) + 1 {
		play(s[:at])
		play(s[at:])
		for n := range 256 {
			b := string([]byte{byte(n)})
			play(s[:at] + b + s[at:])
			if at < len(s) {
				play(s[:at] + b + s[at+1:])
			}
		}
		if at < len(s) {
			play(s[:at] + s[at+1:])
		}
	}
}

// isSame takes a list without elements for nil.
func isSame(a, b api.Record) bool {
	a.Scopes, b.Scopes = append([]string(nil), a.Scopes...), append([]string(nil), b.Scopes...)
	return reflect.DeepEqual(a, b)
}

func isSameState(a, b api.State) bool {
	return slices.Equal(a.Sessions, b.Sessions) && isSameList(a.Consents, b.Consents) && isSameList(a.Codes, b.Codes) && isSameList(a.Tokens, b.Tokens) && isSameList(a.Refreshes, b.Refreshes)
}

func isSameList[T any](a, b []T) bool {
	return len(a) == len(b) && (len(a) == 0 || reflect.DeepEqual(a, b))
}

// mustSee fails unless every call says of the bytes what the model says.
func mustSee(t *testing.T, data []byte) api.Report {
	t.Helper()
	want := modelLook(data)
	if got := audit.Look(data); got != want.report {
		t.Fatalf("P25.1: Look of %d bytes = %+v, want %+v: %.300x", len(data), got, want.report, data)
	}
	mustRepair(t, data, want)
	mustPlayAsStore(t, data, want)
	mustDump(t, data, want)
	return want.report
}

func mustRepair(t *testing.T, data []byte, want seen) {
	t.Helper()
	head := data[:want.report.Good]
	got, report := audit.Repair(data)
	if !bytes.Equal(got, head) || report != want.report {
		t.Fatalf("P25.2: Repair of %d bytes = %d bytes, %+v, want %d bytes, %+v", len(data), len(got), report, len(head), want.report)
	}
	whole := want.report
	whole.Torn, whole.Fault = 0, api.FaultNone
	if again, report := audit.Repair(got); !bytes.Equal(again, head) || report != whole {
		t.Fatalf("P25.2: Repair of what Repair answers = %d bytes, %+v, want %d bytes, %+v", len(again), report, len(head), whole)
	}
}

// mustPlayAsStore asks stores over the bytes, and over what Repair makes of them.
func mustPlayAsStore(t *testing.T, data []byte, want seen) {
	t.Helper()
	d := disk.Open(data, api.MaxDisk)
	s, err := store.Open(d)
	head := data[:want.report.Good]
	switch want.report.Fault {
	case api.FaultNone, api.FaultTorn:
		if lies, _ := d.Look(); err != nil || !bytes.Equal(lies, head) || !isSameState(s.State(), want.row.state()) {
			t.Fatalf("P25.3: with the fault %d: Open = %v, %d bytes lie on the disk, want %d", want.report.Fault, err, len(lies), len(head))
		}
	default:
		if err != api.ErrLog {
			t.Fatalf("P25.3: with the fault %d: Open = %v, want ErrLog", want.report.Fault, err)
		}
	}
	mended, _ := audit.Repair(data)
	if s, err := store.Open(disk.Open(mended, api.MaxDisk)); err != nil || !isSameState(s.State(), want.row.state()) {
		t.Fatalf("P25.3: Open over what Repair answers: %v", err)
	}
}

func mustDump(t *testing.T, data []byte, want seen) {
	t.Helper()
	lines, err := audit.Dump(data)
	if want.report.Fault >= api.FaultText {
		if len(lines) != 0 || err != api.ErrLog {
			t.Fatalf("P25.6: with the fault %d: Dump = %.300q, %v, want none, ErrLog", want.report.Fault, lines, err)
		}
		return
	}
	if !slices.Equal(lines, modelDump(want.txs)) || err != nil {
		t.Fatalf("P25.6: Dump = %.300q, %v, want %.300q", lines, err, modelDump(want.txs))
	}
	if again, err := audit.Load(lines); !bytes.Equal(again, data[:want.report.Good]) || err != nil {
		t.Fatalf("P25.8: Load of what Dump answers = %d bytes, %v, want %d", len(again), err, want.report.Good)
	}
}

// mustLoad fails unless Load makes of the lines what the model makes of them, and Dump these lines of that.
func mustLoad(t *testing.T, lines ...string) error {
	t.Helper()
	want, wantErr := modelLoad(lines)
	got, err := audit.Load(lines)
	if !bytes.Equal(got, want) || err != wantErr {
		t.Fatalf("P25.7: Load(%.500q) = %d bytes, %v, want %d, %v", lines, len(got), err, len(want), wantErr)
	}
	if err != nil {
		return err
	}
	if again, err := audit.Dump(got); !slices.Equal(again, lines) || err != nil {
		t.Fatalf("P25.8: Dump of what Load answers = %.500q, %v, want %.500q", again, err, lines)
	}
	return nil
}

// mustWrite fails unless Line writes the record as the model does, and ReadLine reads that back.
func mustWrite(t *testing.T, r api.Record) string {
	t.Helper()
	want := modelLine(r)
	if got, err := audit.Line(r); got != want || err != nil {
		t.Fatalf("P25.4: Line(%.300v) = %.300q, %v, want %.300q", r, got, err, want)
	}
	if got, err := audit.ReadLine(want); !isSame(got, r) || err != nil {
		t.Fatalf("P25.5: ReadLine(%.300q) = %.300v, %v, want %.300v", want, got, err, r)
	}
	return want
}

func mustNotWrite(t *testing.T, r api.Record) {
	t.Helper()
	if got, err := audit.Line(r); got != "" || err != api.ErrArg {
		t.Fatalf("P25.4: Line(%.300v) = %.300q, %v, want nothing, ErrArg", r, got, err)
	}
}

// mustRead fails unless ReadLine finds in the text what the model finds there.
func mustRead(t *testing.T, s string) bool {
	t.Helper()
	if want, ok := modelReadLine(s); ok {
		if line := mustWrite(t, want); line != s {
			t.Fatalf("P25.5: the record of %.300q is written as %.300q", s, line)
		}
		return true
	}
	if got, err := audit.ReadLine(s); !isSame(got, api.Record{}) || err != api.ErrText {
		t.Fatalf("P25.5: ReadLine(%.300q) = %.300v, %v, want nothing, ErrText", s, got, err)
	}
	return false
}
