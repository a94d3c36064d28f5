package audit_test

import (
	"bytes"
	"fmt"
	"math/rand"
	"runtime"
	"slices"
	"strings"
	"sync"
	"testing"

	"usher/api"
	"usher/audit"
)

// scribble writes a list full, its spare room too, and appends to it.
func scribble[T any](list []T, by T) {
	full := list[:cap(list)]
	for i := range full {
		full[i] = by
	}
	_ = append(list, by)
	if len(list) > 1 {
		_ = append(list[:1], by, by)
	}
}

// roomy is a list with spare room that holds something.
func roomy[T any](list []T, spare ...T) []T {
	return append(slices.Clone(list), spare...)[:len(list)]
}

// all is what a list and its spare room hold.
func all[T any](list []T) []T { return slices.Clone(list[:cap(list)]) }

// someLogs is logs without a fault and with each of them.
func someLogs() [][]byte {
	data := row(estate()...)
	return [][]byte{nil, data, data[:len(data)-1], join(data, []byte("torn")), join(data, frameOf([]byte{0}), data), join(data, data), data[1:], row(estate()[1:]...)}
}

// TestBytesThatAreHandedInStay, and what stands behind them too, which is not read either.
func TestBytesThatAreHandedInStay(t *testing.T) {
	for _, log := range someLogs() {
		for _, spare := range [][]byte{[]byte("spare"), row(estate()...), row(tx(session(fresh, "ann", 1)))} {
			data := roomy(log, spare...)
			before := all(data)
			mustSee(t, data)
			if !bytes.Equal(all(data), before) {
				t.Errorf("P25.9: of %.300x is left %.300x", before, all(data))
			}
		}
	}
	data := row(estate()...)
	for size := range data {
		if got := audit.Look(data[:size]); got.Good > size || got.Good+got.Torn != size {
			t.Fatalf("P25.9: Look of %d bytes, behind which others stand, = %+v", size, got)
		}
	}
}

// TestLinesThatAreHandedInStay, and what stands behind them too, which is not read either.
func TestLinesThatAreHandedInStay(t *testing.T) {
	for count := range len(estate()) + 1 {
		for _, spare := range [][]string{{"transaction 1", sessionLine}, {"", ""}} {
			lines := roomy(modelDump(estate()[:count]), spare...)
			before := all(lines)
			if err := mustLoad(t, lines...); err != nil || !slices.Equal(all(lines), before) {
				t.Errorf("P25.9: %v, of %q is left %q", err, before, all(lines))
			}
		}
	}
	lines := modelDump(estate())
	for size := range lines {
		mustLoad(t, lines[:size]...)
	}
}

// TestScopesThatAreHandedInStay, and what stands behind them too.
func TestScopesThatAreHandedInStay(t *testing.T) {
	for _, r := range append(many(), refused()...) {
		list := roomy(r.Scopes, "spare", "more")
		before := all(list)
		r.Scopes = list
		audit.Line(r)
		if !slices.Equal(all(list), before) {
			t.Errorf("P25.9: of %q is left %q", before, all(list))
		}
	}
}

// TestWhatIsHandedInIsNotKept: whoever writes over it changes no answer.
func TestWhatIsHandedInIsNotKept(t *testing.T) {
	for _, log := range someLogs() {
		want := modelLook(log)
		data := roomy(log, 1, 2, 3)
		repaired, report := audit.Repair(data)
		lines, _ := audit.Dump(data)
		scribble(data, '#')
		if !bytes.Equal(repaired, log[:want.report.Good]) || report != want.report {
			t.Errorf("P25.9: writing into what was handed in changes what Repair has answered")
		}
		if want.report.Fault <= api.FaultTorn && !slices.Equal(lines, modelDump(want.txs)) {
			t.Errorf("P25.9: writing into what was handed in changes what Dump has answered")
		}
	}
	lines := modelDump(estate())
	data, _ := audit.Load(lines)
	scribble(lines, "#")
	if !bytes.Equal(data, row(estate()...)) {
		t.Errorf("P25.9: writing into what was handed in changes what Load has answered")
	}
}

// TestListsAreNew: whoever writes an answer full changes neither what was handed in nor another answer.
func TestListsAreNew(t *testing.T) {
	for _, log := range someLogs() {
		want := modelLook(log)
		data := roomy(log, 1, 2, 3)
		before := all(data)
		one, _ := audit.Repair(data)
		other, _ := audit.Repair(data)
		scribble(one, '#')
		if !bytes.Equal(other, log[:want.report.Good]) || !bytes.Equal(all(data), before) {
			t.Errorf("P25.9: two answers of Repair share memory, or one with what was handed in")
		}
		lines, _ := audit.Dump(data)
		others, _ := audit.Dump(data)
		scribble(lines, "#")
		if want.report.Fault <= api.FaultTorn && !slices.Equal(others, modelDump(want.txs)) {
			t.Errorf("P25.9: two answers of Dump share memory")
		}
	}
	one, _ := audit.Load(modelDump(estate()))
	other, _ := audit.Load(modelDump(estate()))
	scribble(one, '#')
	if !bytes.Equal(other, row(estate()...)) {
		t.Errorf("P25.9: two answers of Load share memory")
	}
	for _, r := range many() {
		line := modelLine(r)
		first, _ := audit.ReadLine(line)
		second, _ := audit.ReadLine(line)
		scribble(first.Scopes, "#")
		if !isSame(second, r) {
			t.Errorf("P25.9: two answers of ReadLine share memory: %v", second)
		}
	}
}

func heapInUse() uint64 {
	runtime.GC()
	var stats runtime.MemStats
	runtime.ReadMemStats(&stats)
	return stats.HeapAlloc
}

// TestNothingIsKept: behind calls over much nothing of it is left.
func TestNothingIsKept(t *testing.T) {
	const spare = 1 << 20
	data, _ := longLog(500)
	lines, err := audit.Dump(data)
	if err != nil {
		t.Fatal(err)
	}
	before := heapInUse()
	for range 5 {
		audit.Look(data)
		audit.Repair(data)
		audit.Dump(data)
		audit.Load(lines)
	}
	if after := heapInUse(); after > before+spare {
		t.Errorf("LANGUAGE.md, 8: %d bytes are kept", after-before)
	}
	runtime.KeepAlive(data)
	runtime.KeepAlive(lines)
}

// allocated is how many bytes of memory a call has asked for.
func allocated(call func()) uint64 {
	var before, after runtime.MemStats
	runtime.ReadMemStats(&before)
	call()
	runtime.ReadMemStats(&after)
	return after.TotalAlloc - before.TotalAlloc
}

// TestLongTexts: a line of very many words, of one very long one and of blanks is refused without very much memory.
func TestLongTexts(t *testing.T) {
	const size = 1 << 22
	for _, head := range []string{"", "session ", "ended ", "ended " + fresh + " ", "consent ann app 0", "consent ann app ", "code " + fresh + " ann app ", "transaction "} {
		for _, part := range []string{" ", " a", "a", "9", "0", "\x00", "A", "é"} {
			s := head + strings.Repeat(part, size/len(part))
			got := allocated(func() {
				if _, err := audit.ReadLine(s); err != api.ErrText {
					t.Errorf("P25.5: ReadLine of a long text = %v", err)
				}
				if _, err := audit.Load([]string{s}); err != api.ErrText {
					t.Errorf("P25.7: Load of a long text = %v", err)
				}
				if _, err := audit.Load([]string{"transaction 1", s}); err != api.ErrText {
					t.Errorf("P25.7: Load of a long text = %v", err)
				}
			})
			if got > 8*size {
				t.Errorf("P25.5: of %d bytes %q %d bytes of memory were asked for", len(s), head+part, got)
			}
		}
	}
	if _, err := audit.Line(consent(anns, 1, strings.Split(strings.Repeat("a ", size), " ")...)); err != api.ErrArg {
		t.Errorf("P25.4: Line of many scopes = %v", err)
	}
}

// TestWhateverIsGiven: no call panics, and each ends.
func TestWhateverIsGiven(t *testing.T) {
	texts := []string{"", "\x00", " ", "transaction 1", sessionLine, everyByte(), strings.Repeat("\xff", 1<<12), strings.Repeat("\x00", 1<<12), strings.Repeat(" ", 1<<12), strings.Repeat("\x00\x00\x00\x01", 1<<10), "\xff\xff\xff\xff\xff\xff\xff\xff\xff", "\x7f\xff\xff\xff\x00\x00\x00\x00", "\x80\x00\x00\x00", string(row(estate()...))}
	for _, s := range texts {
		mustSee(t, []byte(s))
		mustRead(t, s)
		for _, other := range texts {
			mustSee(t, []byte(s+other))
			mustLoad(t, s, other)
			mustLoad(t, "transaction 1", s, other)
			mustRead(t, s+" "+other)
			for kind := -1; kind <= 12; kind++ {
				r := api.Record{Kind: kind, ID: s, User: other, Client: s, Redirect: other, Challenge: s, Code: other, Scopes: []string{s, other}, At: len(s)}
				if modelCheck(r) {
					t.Fatalf("a test takes %v for a record that may not be", r)
				}
				mustNotWrite(t, r)
			}
		}
	}
}

// told is everything that is to be said of some bytes.
func told(data []byte) string {
	repaired, report := audit.Repair(data)
	lines, err := audit.Dump(data)
	again, loadErr := audit.Load(lines)
	return fmt.Sprint(audit.Look(data), report, repaired, lines, err, again, loadErr)
}

// TestSameBytesSameAnswers, also of many that ask at the same time.
func TestSameBytesSameAnswers(t *testing.T) {
	var calls sync.WaitGroup
	for worker := range 8 {
		calls.Go(func() {
			random := rand.New(rand.NewSource(int64(worker / 2)))
			for range 40 {
				data := drawnLog(random)
				want := modelLook(data)
				if first := told(data); first != told(bytes.Clone(data)) {
					t.Errorf("P0.2: the same bytes, another answer: %s", first)
				}
				if got := audit.Look(data); got != want.report {
					t.Errorf("P25.1: Look = %+v, want %+v", got, want.report)
				}
				if line := modelLine(exampleSession); rewritten(line) != line {
					t.Errorf("P25.5: ReadLine(%q)", line)
				}
			}
		})
	}
	calls.Wait()
}

// rewritten is a line that was read and written again.
func rewritten(line string) string {
	r, _ := audit.ReadLine(line)
	again, _ := audit.Line(r)
	return again
}
