package record_test

import (
	"slices"
	"testing"

	"usher/api"
	"usher/record"
)

func repeated(r api.Record, count int) []api.Record {
	return slices.Repeat([]api.Record{r}, count)
}

// TestNumberOfRecords: none, one to four, five and more.
func TestNumberOfRecords(t *testing.T) {
	for _, r := range everyRecord() {
		for count := 1; count <= 4; count++ {
			mustPack(t, repeated(r, count), modelPack(repeated(r, count)))
		}
		for count := 5; count <= 9; count++ {
			mustNotPack(t, repeated(r, count), api.ErrMany)
			mustNotUnpack(t, modelPack(repeated(r, count)))
		}
		mustNotPack(t, repeated(r, 128), api.ErrMany)
	}
	mustNotPack(t, nil, api.ErrArg)
	mustNotPack(t, []api.Record{}, api.ErrArg)
	mustNotPack(t, make([]api.Record, 0, 9), api.ErrArg)
	mustNotUnpack(t, nil)
	mustNotUnpack(t, []byte{0})
	mustNotUnpack(t, make([]byte, 50))
}

// TestOrderOfRecords: they stand as they were handed in, and the same one may stand twice.
func TestOrderOfRecords(t *testing.T) {
	for _, a := range everyRecord() {
		for _, b := range everyRecord() {
			mustPack(t, []api.Record{a, b}, modelPack([]api.Record{a, b}))
		}
	}
	session, ended, code := made(1, usual), made(2, usual), made(4, usual)
	mustPack(t, []api.Record{ended, code, session},
		join(3, 45, modelWrite(ended), 128+len(modelWrite(code))%128, 1, modelWrite(code), 51, modelWrite(session)))
}

// wrongRecords may not be, each for another reason.
func wrongRecords() []api.Record {
	code := made(4, usual)
	return []api.Record{
		{}, {Kind: 5}, {Kind: 12, ID: zeroID}, {Kind: -1, ID: zeroID}, with(code, "At", -1), with(code, "Scopes", longScopes(17, 1)),
		with(code, "Code", zeroID), with(code, "ID", zeroID+"A"), with(made(11, usual), "At", 1), with(code, "Redirect", longAddress(513)),
	}
}

// TestBadRecordAmongGoodOnes: at each place of one to four.
func TestBadRecordAmongGoodOnes(t *testing.T) {
	for _, wrong := range wrongRecords() {
		for count := 1; count <= 4; count++ {
			for place := range count {
				l := repeated(made(9, usual), count)
				l[place] = wrong
				mustNotPack(t, l, api.ErrArg)
				if modelHides(wrong) {
					mustNotUnpack(t, modelPack(l))
				}
			}
		}
	}
}

// TestTooManyGoesAhead of a record that may not be.
func TestTooManyGoesAhead(t *testing.T) {
	for _, wrong := range wrongRecords() {
		for count := 5; count <= 6; count++ {
			mustNotPack(t, repeated(wrong, count), api.ErrMany)
			for place := range count {
				l := repeated(made(9, usual), count)
				l[place] = wrong
				mustNotPack(t, l, api.ErrMany)
			}
		}
	}
}

// TestTransactionsAreNoRecords: a record is no transaction, but where one record's bytes stand behind their number.
func TestTransactionsAreNoRecords(t *testing.T) {
	for _, r := range everyRecord() {
		mustAgree(t, modelWrite(r))
		mustAgree(t, modelPack([]api.Record{r}))
		mustAgree(t, modelPack([]api.Record{r})[1:])
	}
}

// TestGreatestTransaction: four of the greatest record, which is a code, take just 5425 bytes.
func TestGreatestTransaction(t *testing.T) {
	for _, r := range greatestRecords() {
		p, err := record.Pack(repeated(r, 4))
		if len(p) == 0 || len(p) > 5425 || err != nil {
			t.Errorf("P14.4: four of %.60v take %d bytes, %v", r, len(p), err)
		}
	}
	p, err := record.Pack(repeated(made(4, greatest), 4))
	if len(p) != 5425 || err != nil {
		t.Errorf("P14.4: the greatest transaction has %d bytes, %v", len(p), err)
	}
	if back, err := record.Unpack(p); !sameAll(back, repeated(made(4, greatest), 4)) || err != nil {
		t.Errorf("P14.5: the greatest transaction is read back as %.300v, %v", back, err)
	}
}
