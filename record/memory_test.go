package record_test

import (
	"bytes"
	"math"
	"runtime"
	"slices"
	"strconv"
	"strings"
	"testing"

	"usher/api"
	"usher/record"
)

// within is bytes with others around them, in one piece of memory: whole is all of that.
func within(p []byte) (part, whole []byte) {
	whole = join("<<<", p, ">>>>>>>>")
	return whole[3 : 3+len(p)], whole
}

// roomy is a list with spare room that holds something.
func roomy[T any](list []T, spare T) []T {
	return append(slices.Clone(list), spare, spare, spare)[:len(list)]
}

// all is what a list and its spare room hold.
func all[T any](list []T) []T { return slices.Clone(list[:cap(list)]) }

func roomyRecords(l []api.Record) []api.Record {
	l = roomy(l, api.Record{Kind: 99, ID: "spare"})
	for i := range l {
		l[i].Scopes = roomy(l[i].Scopes, "spare")
	}
	return l
}

// scribble writes a list full, its spare room too, and appends to it.
func scribble[T any](list []T, by T) {
	full := list[:cap(list)]
	for i := range full {
		full[i] = by
	}
	_ = append(list, by)
	if len(list) > 1 {
		_ = append(list[:1], by, by)
	}
}

// someLists is transactions that may be and such that may not.
func someLists() [][]api.Record {
	bad := with(made(4, usual), "Scopes", []string{"b", "a", "b"})
	return append(transactions(), nil, repeated(bad, 1), []api.Record{made(3, usual), bad}, repeated(made(6, usual), 5), repeated(bad, 6))
}

// TestHandedRecordsStayAsTheyWere, and what stands behind them too.
func TestHandedRecordsStayAsTheyWere(t *testing.T) {
	for _, l := range someLists() {
		l = roomyRecords(l)
		before := all(l)
		var scopes [][]string
		for _, r := range l {
			scopes = append(scopes, all(r.Scopes))
		}
		record.Pack(l)
		for _, r := range l {
			record.Check(r)
			record.Encode(r)
		}
		if !slices.EqualFunc(all(l), before, same) {
			t.Errorf("P14.7: of %.300v is left %.300v", before, all(l))
		}
		for i, r := range l {
			if !slices.Equal(all(r.Scopes), scopes[i]) {
				t.Errorf("P14.7: of %v is left %v", scopes[i], all(r.Scopes))
			}
		}
	}
}

// TestHandedBytesStayAsTheyWere, and what stands around them too.
func TestHandedBytesStayAsTheyWere(t *testing.T) {
	for _, l := range transactions() {
		for _, p := range [][]byte{modelPack(l), modelWrite(l[0]), modelPack(l)[1:], nil} {
			part, whole := within(p)
			before := bytes.Clone(whole)
			record.Decode(part)
			record.Unpack(part)
			if !bytes.Equal(whole, before) {
				t.Errorf("P14.7: of %.300v is left %.300v", before, whole)
			}
		}
	}
}

// TestNothingBehindIsRead: bytes that lie in the spare room do not make up for those that are missing.
func TestNothingBehindIsRead(t *testing.T) {
	for _, l := range transactions() {
		p := modelPack(l)
		for size := range p {
			mustNotUnpack(t, p[:size:len(p)])
		}
		p = modelWrite(l[0])
		for size := range p {
			mustNotRead(t, p[:size:len(p)])
		}
	}
}

// TestNothingHandedIsKept: whoever writes into what they handed in changes no answer.
func TestNothingHandedIsKept(t *testing.T) {
	for _, want := range transactions() {
		packed, written := modelPack(want), modelWrite(want[0])
		l := roomyRecords(want)
		gotPacked, _ := record.Pack(l)
		gotWritten, _ := record.Encode(l[0])
		for _, r := range l {
			scribble(r.Scopes, "#")
		}
		scribble(l, api.Record{})
		if !bytes.Equal(gotPacked, packed) || !bytes.Equal(gotWritten, written) {
			t.Errorf("P14.7: writing into %.300v changes its bytes", want)
		}
		part, whole := within(packed)
		gotList, _ := record.Unpack(part)
		scribble(whole, '#')
		part, whole = within(written)
		gotRecord, _ := record.Decode(part)
		scribble(whole, '#')
		if !sameAll(gotList, want) || !same(gotRecord, want[0]) {
			t.Errorf("P14.7: writing into the bytes of %.300v changes what was read in them", want)
		}
	}
}

// TestBytesThatAreAnsweredAreNew: they share nothing with another answer.
func TestBytesThatAreAnsweredAreNew(t *testing.T) {
	for _, l := range transactions() {
		first, _ := record.Pack(l)
		second, _ := record.Pack(l)
		one, _ := record.Encode(l[0])
		two, _ := record.Encode(l[0])
		scribble(second, '#')
		scribble(two, '#')
		if !bytes.Equal(first, modelPack(l)) || !bytes.Equal(one, modelWrite(l[0])) {
			t.Errorf("P14.7: two answers for %.300v share memory", l)
		}
		mustPack(t, l, modelPack(l))
		mustTake(t, l[0])
	}
}

// TestListsThatAreAnsweredAreNew: they share nothing with another answer, nor with one another.
func TestListsThatAreAnsweredAreNew(t *testing.T) {
	for _, want := range transactions() {
		p := modelPack(want)
		first, _ := record.Unpack(p)
		for place := range want {
			second, _ := record.Unpack(p)
			scribble(second[place].Scopes, "#")
			for i := range want {
				if i != place && !same(second[i], want[i]) {
					t.Errorf("P14.7: writing into the scopes of record %d changes record %d", place, i)
				}
			}
			scribble(second, api.Record{Kind: 99})
			if !sameAll(first, want) || !bytes.Equal(p, modelPack(want)) {
				t.Errorf("P14.7: writing into an answer changes another one, or the bytes")
			}
		}
		one, _ := record.Decode(modelWrite(want[0]))
		two, _ := record.Decode(modelWrite(want[0]))
		scribble(two.Scopes, "#")
		if !same(one, want[0]) {
			t.Errorf("P14.7: writing into the scopes of an answer changes another one")
		}
		mustPack(t, want, p)
	}
}

// TestAnswersHangOnNothingElse: many at once, each with its own.
func TestAnswersHangOnNothingElse(t *testing.T) {
	for i, l := range transactions() {
		t.Run(strconv.Itoa(i), func(t *testing.T) {
			t.Parallel()
			for range 20 {
				mustPack(t, l, modelPack(l))
			}
		})
	}
}

// TestNoPanics hands in what is far from a record.
func TestNoPanics(t *testing.T) {
	long := strings.Repeat("a", 1<<20)
	blanks := strings.Repeat("a ", 1<<19)
	texts := []string{long, blanks, strings.Repeat("A", 1<<20+3), everyByte(), "\xff"}
	for _, kind := range []int{0, 1, 3, 4, 6, 11, 12, math.MaxInt, math.MinInt} {
		for _, text := range texts {
			for _, field := range allFields {
				r := made(kind, usual)
				switch field {
				case "Scopes":
					mustNotTake(t, with(r, field, []string{text}))
					mustNotTake(t, with(r, field, strings.Split(text, "a")))
				case "At":
					mustNotTake(t, with(r, field, math.MinInt))
				default:
					mustNotTake(t, with(r, field, text))
				}
			}
		}
	}
	for _, text := range texts {
		mustAgree(t, []byte(text))
		mustAgree(t, join(3, 1, "a", text))
	}
	mustNotRead(t, make([]byte, 1<<20))
	mustNotRead(t, bytes.Repeat([]byte{255}, 1<<20))
	mustNotRead(t, join(3, 1, "a", 255, 255, 63, make([]byte, 1<<20)))
}

// TestNoMemoryForNothing: a number that promises a great list or text, of which nothing comes, takes no memory.
func TestNoMemoryForNothing(t *testing.T) {
	great := []byte{255, 255, 255, 255, 255, 255, 255, 255, 127}
	some := []byte{255, 255, 255, 127} // 2^28 - 1: of so many texts the list would have memory
	for _, n := range [][]byte{great, some} {
		for _, p := range [][]byte{join(3, 1, "a", n), join(3, 1, "a", 1, n), join(5, n), n, join(1, n)} {
			var before, behind runtime.MemStats
			runtime.ReadMemStats(&before)
			mustAgree(t, p)
			runtime.ReadMemStats(&behind)
			if taken := behind.TotalAlloc - before.TotalAlloc; taken > 1<<20 {
				t.Errorf("P14.7: %v takes %d bytes of memory", p, taken)
			}
		}
	}
}
