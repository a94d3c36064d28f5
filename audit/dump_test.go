package audit_test

import (
	"slices"
	"strings"
	"testing"

	"usher/api"
	"usher/audit"
)

var (
	sessionLine = "session " + fresh + " ann 5"
	endedLine   = "ended " + fresh
)

// mustRefuse fails unless Load answers that error.
func mustRefuse(t *testing.T, want error, lines ...string) {
	t.Helper()
	if err := mustLoad(t, lines...); err != want {
		t.Fatalf("P25.7: Load(%.500q): the model says %v, want %v", lines, err, want)
	}
}

func TestNoLines(t *testing.T) {
	mustRefuse(t, nil)
	if lines, err := audit.Dump(nil); len(lines) != 0 || err != nil {
		t.Errorf("P25.6: Dump of no bytes = %q, %v", lines, err)
	}
	if data, err := audit.Load([]string{}); len(data) != 0 || err != nil {
		t.Errorf("P25.7: Load of no lines = %x, %v", data, err)
	}
}

// TestDumps: one to four records in a transaction, and what stands behind the head that plays.
func TestDumps(t *testing.T) {
	records := tx(session(fresh, "ann", 5), ended(fresh), consent(anns, 6, "a", "b"), withdrawn(anns))
	lines := []string{sessionLine, endedLine, "consent ann app 6 a b", "withdrawn ann app"}
	for count := 1; count <= 4; count++ {
		want := append([]string{"transaction " + string(rune('0'+count))}, lines[:count]...)
		for _, behind := range [][]byte{nil, []byte("torn"), row(records)[:20], make([]byte, 100)} {
			data := join(row(records[:count]), behind)
			mustSee(t, data)
			if got, err := audit.Dump(data); !slices.Equal(got, want) || err != nil {
				t.Errorf("P25.6: Dump = %q, %v, want %q", got, err, want)
			}
		}
		for _, behind := range [][]byte{frameOf([]byte{0}), row(tx(session(fresh, "bob", 1))), join(row(tx(session(fresh, "bob", 1))), []byte("torn"))} {
			if got, err := audit.Dump(join(row(records[:count]), behind)); len(got) != 0 || err != api.ErrLog {
				t.Errorf("P25.6: Dump = %q, %v, want ErrLog", got, err)
			}
		}
		mustRefuse(t, nil, want...)
	}
}

// TestDumpsOfAllKinds undo and are undone.
func TestDumpsOfAllKinds(t *testing.T) {
	for count := range len(estate()) + 1 {
		lines := modelDump(estate()[:count])
		mustRefuse(t, nil, lines...)
		mustSee(t, row(estate()[:count]...))
		mustSee(t, join(row(estate()[:count]...), []byte{0}))
	}
	for kind := 1; kind <= 11; kind++ {
		mustRefuse(t, nil, modelDump(atOnce(kind))...)
	}
}

// TestHeadings: the line ahead of a transaction has one spelling and the right number.
func TestHeadings(t *testing.T) {
	for _, heading := range []string{
		"", "transaction", "transaction ", "transaction 0", "transaction 2", "transaction 3", "transaction 4", "transaction 5", "transaction 9", "transaction 01", "transaction 10", "transaction 11", "transaction +1", "transaction -1",
		" transaction 1", "transaction  1", "transaction 1 ", "transaction 1\n", "transaction\t1", "transaction1", "Transaction 1", "TRANSACTION 1", "transactions 1", "ransaction 1", "transaction a", "transaction ١", "transaction \x01", "transaction 1\x00", "transaction q",
		"transaction 257", "transaction :", "transaction /", "transaction \xb1", "transaction one", "1", "transaction 1 1", sessionLine, "\x00",
	} {
		mustRefuse(t, api.ErrText, heading, sessionLine)
		mustRefuse(t, api.ErrText, "transaction 1", sessionLine, heading, endedLine)
		mustRefuse(t, api.ErrText, heading)
	}
	for number := range 256 {
		b := string([]byte{byte(number)})
		want := error(api.ErrText)
		if b == "1" {
			want = nil
		}
		mustRefuse(t, want, "transaction "+b, sessionLine)
		mustRefuse(t, api.ErrText, "transaction 1"+b, sessionLine)
		mustRefuse(t, api.ErrText, "transaction "+b+"1", sessionLine)
	}
	changedAt("transaction 1", func(s string) {
		if s != "transaction 1" {
			mustRefuse(t, api.ErrText, s, sessionLine)
		}
	})
}

// TestBlocks: a record too few and one too many, a line too few at every place, and one too many.
func TestBlocks(t *testing.T) {
	five := []string{"session " + id(51) + " ann 1", "session " + id(52) + " ann 1", "session " + id(53) + " ann 1", "session " + id(54) + " ann 1", "session " + id(55) + " ann 1"}
	for said := range 7 {
		for there := range 6 {
			want := error(api.ErrText)
			if said >= 1 && said <= 4 && said == there {
				want = nil
			}
			block := append([]string{"transaction " + string(rune('0'+said))}, five[:there]...)
			mustRefuse(t, want, block...)
			mustRefuse(t, want, append(block, "transaction 1", sessionLine)...)
			mustRefuse(t, want, append([]string{"transaction 1", sessionLine}, block...)...)
		}
	}
	lines := modelDump(estate())
	for at := range lines {
		mustLoad(t, slices.Delete(slices.Clone(lines), at, at+1)...)
		mustLoad(t, lines[:at]...)
		mustLoad(t, lines[at:]...)
		for _, more := range []string{"", " ", "transaction 1", "transaction 0", sessionLine, lines[at], "nothing"} {
			mustLoad(t, slices.Insert(slices.Clone(lines), at, more)...)
			changed := slices.Clone(lines)
			changed[at] = more
			mustLoad(t, changed...)
		}
	}
	for _, more := range []string{"", " ", "transaction 1", sessionLine, "nothing", "#", "\n"} {
		mustRefuse(t, api.ErrText, append(lines, more)...)
	}
}

// TestLinesThatAreNone stand at each place of a block.
func TestLinesThatAreNone(t *testing.T) {
	for _, bad := range []string{"", " ", endedLine + " ", " " + endedLine, endedLine + "\n", "ended", "ended " + fresh[1:], "session " + fresh + " ann 05", "consent ann app 0", "consent ann app 0 b a", "transaction 1", "nothing " + fresh} {
		for count := 1; count <= 4; count++ {
			for at := range count {
				block := []string{"transaction " + string(rune('0'+count))}
				for i := range count {
					block = append(block, "session "+id(byte(60+i))+" ann 1")
				}
				block[1+at] = bad
				mustRefuse(t, api.ErrText, block...)
				mustRefuse(t, api.ErrText, append(modelDump(estate()), block...)...)
			}
		}
	}
}

// TestTransactionsThatDoNotApply: each of them first, amid others and last.
func TestTransactionsThatDoNotApply(t *testing.T) {
	txs := estate()
	for _, bad := range unplayable() {
		for _, count := range []int{0, 1, 4, len(txs)} {
			lines := modelDump(slices.Concat(txs[:count], [][]api.Record{bad}, txs[count:]))
			mustRefuse(t, api.ErrLog, lines...)
		}
	}
}

// TestWhatCannotBeReadGoesFirst: ahead of a transaction that does not apply, wherever the two stand.
func TestWhatCannotBeReadGoesFirst(t *testing.T) {
	good := []string{"transaction 1", sessionLine}
	lost := []string{"transaction 1", "ended " + fresh2}
	for _, bad := range [][]string{{""}, {"transaction 1"}, {"transaction 1", ""}, {"transaction 2", endedLine}, {"transaction 0"}, {endedLine}} {
		mustRefuse(t, api.ErrText, slices.Concat(lost, bad)...)
		mustRefuse(t, api.ErrText, slices.Concat(bad, lost)...)
		mustRefuse(t, api.ErrText, slices.Concat(lost, good, bad)...)
		mustRefuse(t, api.ErrText, slices.Concat(good, lost, good, lost, bad)...)
		mustRefuse(t, api.ErrText, slices.Concat(good, bad, good, lost)...)
		mustRefuse(t, api.ErrText, slices.Concat(lost, lost, lost, bad)...)
	}
	mustRefuse(t, api.ErrLog, slices.Concat(lost, good)...)
	mustRefuse(t, api.ErrLog, slices.Concat(good, lost)...)
	mustRefuse(t, api.ErrLog, slices.Concat(good, good)...)
	mustRefuse(t, api.ErrLog, slices.Concat(lost, lost)...)
}

// TestATransactionIsDoneWholeOrNot: what the first records of one that does not apply have said is not in force behind it, so that no later one can be saved by it.
func TestATransactionIsDoneWholeOrNot(t *testing.T) {
	mustRefuse(t, api.ErrLog, "transaction 2", sessionLine, "ended "+fresh2, "transaction 1", endedLine)
	mustRefuse(t, api.ErrLog, "transaction 2", sessionLine, "ended "+fresh2, "transaction 1", sessionLine)
	mustRefuse(t, nil, "transaction 2", sessionLine, endedLine, "transaction 1", "session "+fresh2+" ann 1")
	mustRefuse(t, api.ErrLog, "transaction 2", endedLine, sessionLine)
}

// TestGreatestTransactions: of four of the greatest records, which have a frame too.
func TestGreatestTransactions(t *testing.T) {
	r := made(api.RecCode, greatest)
	var big []api.Record
	for i := range 4 {
		big = append(big, with(r, "ID", id(byte(i))))
	}
	data := row(big)
	if len(data) != 8+5425 {
		t.Errorf("the greatest frame has %d bytes", len(data))
	}
	mustReport(t, data, 1, len(data), api.FaultNone)
	mustReport(t, data[:len(data)-1], 0, 0, api.FaultTorn)
	mustRefuse(t, nil, modelDump([][]api.Record{big})...)
	if lines := modelDump([][]api.Record{big}); len(strings.Join(lines, "\n")) < 5000 {
		t.Errorf("the greatest lines: %q", lines)
	}
}
