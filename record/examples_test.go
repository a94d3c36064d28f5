package record_test

import (
	"bytes"
	"testing"

	"usher/api"
	"usher/record"
)

// The tests here go down the chapter's table, and the frames that the document's whole run leaves.

func TestExamplesOfEncode(t *testing.T) {
	mustWrite(t, api.Record{Kind: 5, ID: zeroID}, join(5, 43, zeroID))
	mustWrite(t, api.Record{Kind: 1, ID: zeroID, User: "ann", At: 300}, join(1, 43, zeroID, 3, 97, 110, 110, 172, 2))
	mustWrite(t, api.Record{Kind: 3, User: "ann", Client: "app", Scopes: []string{"read", "write"}},
		join(3, 3, 97, 112, 112, 2, 4, 114, 101, 97, 100, 5, 119, 114, 105, 116, 101, 3, 97, 110, 110, 0))
	mustWrite(t, api.Record{Kind: 11, User: "ann", Client: "app"}, join(11, 3, 97, 112, 112, 3, 97, 110, 110))
	if len(join(5, 43, zeroID)) != 45 {
		t.Error("the first example has not 45 bytes")
	}
}

func TestExamplesOfRefusedRecords(t *testing.T) {
	for _, r := range []api.Record{
		{Kind: 5}, {Kind: 12, ID: zeroID}, {Kind: 0, ID: zeroID}, {Kind: 5, ID: zeroID, At: 1},
		{Kind: 1, ID: zeroID, User: "ann", At: -1},
		{Kind: 3, User: "ann", Client: "app", Scopes: []string{"write", "read"}},
	} {
		mustNotTake(t, r)
	}
}

func TestExamplesOfDecode(t *testing.T) {
	if r, err := record.Decode(join(5, 43, zeroID)); !same(r, api.Record{Kind: 5, ID: zeroID}) || err != nil {
		t.Errorf("P14.3: %v, %v", r, err)
	}
	mustNotRead(t, join(5, 171, 0, zeroID))
	mustNotRead(t, join(5, 43, zeroID[1:], "B"))
	mustNotRead(t, nil)
	mustNotRead(t, join(5, 43))
}

func TestExamplesOfTransactions(t *testing.T) {
	one := api.Record{Kind: 5, ID: zeroID}
	mustPack(t, []api.Record{one}, join(1, 45, 5, 43, zeroID))
	mustNotPack(t, nil, api.ErrArg)
	mustNotPack(t, []api.Record{one, one, one, one, one}, api.ErrMany)
	mustNotUnpack(t, join(0))
}

// TestFramesOfTheWholeRun: the payloads have the sizes that the document tells, and the first begins as it tells.
func TestFramesOfTheWholeRun(t *testing.T) {
	code := "AQEBAQEBAQEBAQEBAQEBAQEBAQEBAQEBAQEBAQEBAQE"
	token := "AgICAgICAgICAgICAgICAgICAgICAgICAgICAgICAgI"
	read := []string{"read"}
	frames := [][]api.Record{
		{{Kind: api.RecSession, ID: zeroID, User: "ann"}},
		{{Kind: api.RecConsent, User: "ann", Client: "app", Scopes: read, At: 5},
			{Kind: api.RecCode, ID: code, User: "ann", Client: "app", Redirect: "https://a.example/cb", Challenge: "E9Melhoa2OwvFrEMTJguCHaoeK1t8URWbuGJSstw-cM", Scopes: read, At: 5}},
		{{Kind: api.RecRedeemed, ID: code},
			{Kind: api.RecToken, ID: token, User: "ann", Client: "app", Code: code, Scopes: read, At: 15}},
		{{Kind: api.RecRevoked, ID: token}},
	}
	for i, size := range []int{52, 144, 152, 47} {
		mustPack(t, frames[i], modelPack(frames[i]))
		if p, _ := record.Pack(frames[i]); len(p) != size {
			t.Errorf("P14.4: payload %d has %d bytes, want %d", i, len(p), size)
		}
	}
	if p, _ := record.Pack(frames[0]); !bytes.HasPrefix(p, []byte{0x01, 0x32, 0x01, 0x2b, 0x41, 0x41}) {
		t.Errorf("P14.4: the session's payload begins with %x", p[:6])
	}
}
