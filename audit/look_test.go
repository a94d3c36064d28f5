package audit_test

import (
	"bytes"
	"fmt"
	"slices"
	"testing"

	"usher/api"
	"usher/audit"
)

// mustReport fails unless Look, and what all other calls say, is of so many frames and that fault.
func mustReport(t *testing.T, data []byte, frames, good, fault int) {
	t.Helper()
	got := mustSee(t, data)
	if got.Frames != frames || got.Good != good || got.At != good || got.Torn != len(data)-good || got.Fault != fault {
		t.Fatalf("P25.1: Look of %d bytes = %+v, want %d frames of %d bytes and the fault %d", len(data), got, frames, good, fault)
	}
}

func TestNoBytes(t *testing.T) {
	mustReport(t, nil, 0, 0, api.FaultNone)
	mustReport(t, []byte{}, 0, 0, api.FaultNone)
	if got := audit.Look(nil); got != (api.Report{}) {
		t.Errorf("P25.1: Look of no bytes = %+v", got)
	}
}

// TestWholeFrames: of one transaction, of two and so on.
func TestWholeFrames(t *testing.T) {
	for count := range len(estate()) + 1 {
		data := row(estate()[:count]...)
		mustReport(t, data, count, len(data), api.FaultNone)
	}
}

// TestTornTails: each number of a frame's bytes, alone and behind others; and bytes that are no frame, with sound frames behind them.
func TestTornTails(t *testing.T) {
	txs := estate()
	for count := range txs {
		head := row(txs[:count]...)
		next := row(txs[count])
		for size := 1; size < len(next); size++ {
			mustReport(t, join(head, next[:size]), count, len(head), api.FaultTorn)
		}
		for _, torn := range []string{"\x00", "\xff", "abc", "\x00\x00\x00\x00", "\x00\x00\x00\x00\x21\x44\xdf\x1c", everyByte()} {
			mustReport(t, join(head, []byte(torn)), count, len(head), api.FaultTorn)
			mustReport(t, join(head, []byte(torn), next), count, len(head), api.FaultTorn)
			mustReport(t, join(head, []byte(torn), head), count, len(head), api.FaultTorn)
		}
		mustReport(t, join(head, next[1:]), count, len(head), api.FaultTorn)
		mustReport(t, join(head, next[:len(next)-1], row(txs[count:]...)), count, len(head), api.FaultTorn)
	}
}

// TestFramesOfTooMuch: a head that names no bytes, or more than a payload may have, begins no frame, though its sum is right.
func TestFramesOfTooMuch(t *testing.T) {
	head := row(estate()[0])
	for _, size := range []int{0, 8193, 10000} {
		mustReport(t, join(head, frameOf(make([]byte, size))), 1, len(head), api.FaultTorn)
	}
	mustReport(t, join(head, frameOf(make([]byte, 8192))), 1, len(head), api.FaultText)
}

// unreadable is payloads that are no transactions.
func unreadable() [][]byte {
	one, two := modelPack(tx(session(fresh, "ann", 1))), modelPack(tx(session(fresh, "ann", 1), ended(fresh)))
	return [][]byte{
		{0}, {1}, {255}, {1, 0}, make([]byte, 8192), []byte("no records"),
		one[:len(one)-1], one[1:], append(bytes.Clone(one), 0), append(bytes.Clone(two), one...),
		append([]byte{2}, one[1:]...), append([]byte{1}, two[1:]...), append([]byte{129, 0}, one[1:]...),
		append(append([]byte{5}, two[1:]...), bytes.Repeat(one[1:], 3)...),
		modelPack(tx(ended("A"))), modelPack(tx(session(fresh, "ann", 1), consent(anns, 1, "b", "a"))),
	}
}

// unplayable is transactions that do not apply behind estate, nor behind a beginning of it: of each kind that may not.
func unplayable() [][]api.Record {
	list := [][]api.Record{
		tx(ended(fresh)), tx(redeemed(fresh)), tx(revoked(fresh)), tx(burned(fresh)), tx(turned(fresh)),
		tx(withdrawn(who{"ann", "web"})), tx(withdrawn(who{"app", "ann"})),
		tx(token(fresh2, fresh, anns, 1, "a")), tx(refresh(fresh2, fresh, anns, 1, "a")),
		tx(token(fresh2, unusedCode, anns, 1, "a")), tx(token(fresh2, usedCode, bobs, 1, "a")), tx(refresh(fresh2, usedCode, anns, 1, "d")),
		tx(burned(unusedCode)), tx(redeemed(aSession)), tx(ended(usedCode)), tx(turned(aToken)), tx(revoked(aRefresh)),
	}
	for _, bad := range slices.Clone(list) { // only the last one of the transaction does not apply, or it is another's
		list = append(list, tx(session(id(90), "ann", 1), consent(anns, 90, "a"), bad[0]), tx(bad[0], session(id(90), "ann", 1)))
	}
	return append(list,
		tx(session(fresh, "ann", 1), session(fresh, "ann", 1)), tx(session(fresh, "ann", 1), ended(fresh), ended(fresh)),
		tx(code(fresh, anns, 1, "a"), redeemed(fresh), token(fresh, fresh, anns, 1, "a")),
		tx(code(fresh, anns, 1, "a"), redeemed(fresh), redeemed(fresh)),
		tx(ended(fresh), session(fresh, "ann", 1)),
		tx(consent(who{"x", "y"}, 1, "a"), withdrawn(who{"x", "y"}), withdrawn(who{"x", "y"})),
	)
}

// TestUnreadableFrames: each of them first, amid others and last, with sound frames behind it.
func TestUnreadableFrames(t *testing.T) {
	for _, payload := range unreadable() {
		mustFault(t, frameOf(payload), api.FaultText)
	}
}

// TestFramesOfRefusedRecords: a record that may not be makes of a frame what is no transaction. (What stands in a field that its kind does not name is not written: that frame is another one's.)
func TestFramesOfRefusedRecords(t *testing.T) {
	head, behind := row(estate()[0]), row(estate()[1])
	for _, r := range refused() {
		for _, tx := range [][]api.Record{tx(r), tx(session(fresh, "ann", 1), r), tx(r, session(fresh, "ann", 1))} {
			payload := modelPack(tx)
			if _, ok := modelUnpack(payload); ok {
				mustSee(t, join(head, frameOf(payload), behind))
			} else {
				mustReport(t, join(head, frameOf(payload), behind), 1, len(head), api.FaultText)
			}
		}
	}
}

// TestUnplayableFrames: so with those whose transaction does not apply. The first records of one are not in force then: what stands behind them would apply.
func TestUnplayableFrames(t *testing.T) {
	for _, bad := range unplayable() {
		mustFault(t, row(bad), api.FaultLost)
	}
}

func mustFault(t *testing.T, bad []byte, fault int) {
	t.Helper()
	txs := estate()
	for _, count := range []int{0, 1, 4, len(txs)} {
		head := row(txs[:count]...)
		for _, behind := range [][]byte{nil, row(txs[count:]...), row(tx(session(id(91), "ann", 1))), []byte("torn"), bad} {
			mustReport(t, join(head, bad, behind), count, len(head), fault)
		}
	}
}

// TestDoneTwice: every transaction of estate that changes what it cannot change again, doubled.
func TestDoneTwice(t *testing.T) {
	txs := estate()
	for count := range txs {
		_, again := modelLook(row(txs[:count+1]...)).row.with(txs[count])
		head := row(txs[:count+1]...)
		if again {
			mustReport(t, join(head, row(txs[count])), count+2, len(head)+len(row(txs[count])), api.FaultNone)
			continue
		}
		mustReport(t, join(head, row(txs[count]), row(txs[count+1:]...)), count+1, len(head), api.FaultLost)
	}
}

// TestTheFirstFaultCounts: of two faults and of three.
func TestTheFirstFaultCounts(t *testing.T) {
	faults := []struct {
		data  []byte
		fault int
	}{
		{[]byte("torn"), api.FaultTorn}, {row(tx(ended(fresh)))[:50], api.FaultTorn},
		{frameOf([]byte{0}), api.FaultText}, {frameOf([]byte("no records")), api.FaultText},
		{row(tx(ended(fresh))), api.FaultLost}, {row(tx(session(aSession, "ann", 1))), api.FaultLost},
	}
	head, sound := row(estate()[0]), row(estate()[1])
	for _, first := range faults {
		for _, second := range faults {
			for _, third := range append(faults, faults[0]) {
				mustReport(t, join(head, first.data, second.data, third.data), 1, len(head), first.fault)
				mustReport(t, join(head, first.data, sound, second.data, third.data), 1, len(head), first.fault)
				mustReport(t, join(head, sound, first.data, sound, second.data), 2, len(head)+len(sound), first.fault)
			}
		}
	}
}

// TestKinds: how many records of each kind there are, and that those behind a fault are not counted.
func TestKinds(t *testing.T) {
	want := [12]int{0, 2, 1, 2, 4, 2, 2, 1, 1, 2, 1, 1}
	data := row(estate()...)
	for _, behind := range [][]byte{nil, []byte("torn"), join([]byte("torn"), data), data, frameOf([]byte{0}), row(tx(session(fresh, "ann", 1), ended(aSession), ended(aSession)))} {
		if got := audit.Look(join(data, behind)); got.Kinds != want {
			t.Errorf("P25.1: Kinds = %v, want %v", got.Kinds, want)
		}
	}
	for kind := 1; kind <= 11; kind++ {
		txs := atOnce(kind)
		before, behind := audit.Look(row(txs[:len(txs)-1]...)).Kinds, audit.Look(row(txs...)).Kinds
		before[kind]++
		if behind != before {
			t.Errorf("P25.1: one record of kind %d more: Kinds = %v, want %v", kind, behind, before)
		}
		mustReport(t, row(txs...), len(txs), len(row(txs...)), api.FaultNone)
	}
}

// atOnce is the first transactions of estate, record by record, up to the first record of that kind.
func atOnce(kind int) [][]api.Record {
	var list [][]api.Record
	for _, tx := range estate() {
		for _, r := range tx {
			list = append(list, []api.Record{r})
			if r.Kind == kind {
				return list
			}
		}
	}
	panic(fmt.Sprint("no record of kind ", kind))
}

// TestCutAnywhere: each beginning of a log.
func TestCutAnywhere(t *testing.T) {
	data := row(estate()...)
	for size := range len(data) + 1 {
		got := mustSee(t, data[:size:size])
		if got.Fault > api.FaultTorn || got.Good+got.Torn != size {
			t.Fatalf("P25.1: Look of the first %d bytes = %+v", size, got)
		}
	}
}

// TestBitsTurned: with any bit turned, the head ends ahead of the frame in which it stands.
func TestBitsTurned(t *testing.T) {
	data := row(estate()...)
	var ends []int
	for count := range estate() {
		ends = append(ends, len(row(estate()[:count+1]...)))
	}
	for place := range len(data) * 8 {
		turnedData := bytes.Clone(data)
		turnedData[place/8] ^= 1 << (place % 8)
		frames := slices.IndexFunc(ends, func(end int) bool { return place/8 < end })
		got := audit.Look(turnedData)
		if got.Frames != frames || got.Fault != api.FaultTorn {
			t.Fatalf("P25.1: with the bit %d turned Look = %+v, want %d frames", place, got, frames)
		}
		if place%37 == 0 {
			mustSee(t, turnedData)
		}
	}
}

// TestBitsTurnedBelowTheSum: in a payload that is framed anew a turned bit leads to another transaction, or to none.
func TestBitsTurnedBelowTheSum(t *testing.T) {
	met := map[int]int{}
	txs := estate()
	for count, tx := range txs {
		head, behind := row(txs[:count]...), row(txs[count+1:]...)
		payload := modelPack(tx)
		for place := count; place < len(payload)*8; place += 7 {
			turnedPayload := bytes.Clone(payload)
			turnedPayload[place/8] ^= 1 << (place % 8)
			met[mustSee(t, join(head, frameOf(turnedPayload), behind)).Fault]++
		}
	}
	for _, fault := range []int{api.FaultNone, api.FaultText, api.FaultLost} {
		if met[fault] < 20 {
			t.Errorf("the fault %d was met %d times: too few to tell", fault, met[fault])
		}
	}
}
