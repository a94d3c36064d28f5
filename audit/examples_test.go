package audit_test

import (
	"bytes"
	"slices"
	"testing"

	"usher/api"
	"usher/audit"
)

// The tests here go down the chapter's table.

var (
	exampleSession = session(zeroID, "ann", 5)
	exampleEnded   = ended(zeroID)
	frameF         = row(tx(exampleSession))
	frameG         = row(tx(exampleEnded))
)

func TestExamplesOfLook(t *testing.T) {
	if len(frameF) != 60 || len(frameG) != 55 {
		t.Fatalf("the frames have %d and %d bytes", len(frameF), len(frameG))
	}
	one, both := [12]int{api.RecSession: 1}, [12]int{api.RecSession: 1, api.RecEnded: 1}
	for _, c := range []struct {
		data []byte
		want api.Report
	}{
		{nil, api.Report{}},
		{join(frameF, frameG), api.Report{Frames: 2, Good: 115, Kinds: both, Fault: api.FaultNone, At: 115}},
		{join(frameF, []byte{1, 2, 3}), api.Report{Frames: 1, Good: 60, Torn: 3, Kinds: one, Fault: api.FaultTorn, At: 60}},
		{join(frameF, frameF), api.Report{Frames: 1, Good: 60, Torn: 60, Kinds: one, Fault: api.FaultLost, At: 60}},
		{frameG, api.Report{Torn: 55, Fault: api.FaultLost}},
		{join(frameF, frameOf([]byte{0}), frameG), api.Report{Frames: 1, Good: 60, Torn: 64, Kinds: one, Fault: api.FaultText, At: 60}},
	} {
		if got := audit.Look(c.data); got != c.want {
			t.Errorf("P25.1: Look of %d bytes = %+v, want %+v", len(c.data), got, c.want)
		}
		mustSee(t, c.data)
	}
}

func TestExampleOfRepair(t *testing.T) {
	want := api.Report{Frames: 1, Good: 60, Torn: 115, Kinds: [12]int{api.RecSession: 1}, Fault: api.FaultLost, At: 60}
	if got, report := audit.Repair(join(frameF, frameF, frameG)); !bytes.Equal(got, frameF) || report != want {
		t.Errorf("P25.2: Repair of F F G = %d bytes, %+v, want %+v", len(got), report, want)
	}
}

func TestExamplesOfLines(t *testing.T) {
	if got, err := audit.Line(exampleSession); got != "session "+zeroID+" ann 5" || err != nil {
		t.Errorf("P25.4: Line = %q, %v", got, err)
	}
	if got, err := audit.Line(consent(anns, 0, "a", "b")); got != "consent ann app 0 a b" || err != nil {
		t.Errorf("P25.4: Line = %q, %v", got, err)
	}
	for _, s := range []string{"ended " + zeroID + " ", "session " + zeroID + " ann 05", "consent ann app 0", "consent ann app 0 b a", ""} {
		if got, err := audit.ReadLine(s); !isSame(got, api.Record{}) || err != api.ErrText {
			t.Errorf("P25.5: ReadLine(%q) = %v, %v, want ErrText", s, got, err)
		}
	}
}

func TestExamplesOfDumpAndLoad(t *testing.T) {
	four := []string{"transaction 1", "session " + zeroID + " ann 5", "transaction 1", "ended " + zeroID}
	for _, c := range []struct {
		data []byte
		want []string
		err  error
	}{
		{join(frameF, frameG), four, nil},
		{join(frameF, frameF), nil, api.ErrLog},
		{join(frameF, []byte{1, 2, 3}), four[:2], nil},
	} {
		if got, err := audit.Dump(c.data); !slices.Equal(got, c.want) || err != c.err {
			t.Errorf("P25.6: Dump of %d bytes = %q, %v, want %q, %v", len(c.data), got, err, c.want, c.err)
		}
	}
	for _, c := range []struct {
		lines []string
		want  []byte
		err   error
	}{
		{four, join(frameF, frameG), nil},
		{[]string{"transaction 1", "ended " + zeroID}, nil, api.ErrLog},
		{[]string{"transaction 2", "ended " + zeroID}, nil, api.ErrText},
		{[]string{"transaction 0"}, nil, api.ErrText},
		{[]string{"ended " + zeroID}, nil, api.ErrText},
	} {
		if got, err := audit.Load(c.lines); !bytes.Equal(got, c.want) || err != c.err {
			t.Errorf("P25.7: Load(%q) = %d bytes, %v, want %d, %v", c.lines, len(got), err, len(c.want), c.err)
		}
	}
}
