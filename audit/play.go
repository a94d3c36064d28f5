package audit

import (
	"usher/api"
	"usher/disk"
	"usher/record"
	"usher/store"
	"usher/wal"
)

// scratch is a store on a disk that nobody else sees: what it commits shows which transactions apply.
type scratch struct {
	disk  *disk.Disk
	store *store.Store
}

func newScratch() scratch {
	d := disk.New(api.MaxDisk)
	s, _ := store.Open(d) // nothing can be wrong with a new disk
	return scratch{disk: d, store: s}
}

// plays: does a transaction apply to what those ahead of it have made? If so, it is done.
func (s scratch) plays(tx []api.Record) bool { return s.store.Commit(tx) == nil }

// log is the frames of the transactions that were done.
func (s scratch) log() []byte {
	data, _ := s.disk.Look()
	return data
}

// play goes through the head of data that plays: it hands on the transactions and tells what it has met.
func play(data []byte, hand func(tx []api.Record)) api.Report {
	var report api.Report
	s := newScratch()
	for end, payload := range wal.Frames(data) {
		tx, fault := s.take(payload)
		report.Fault = fault
		if fault != api.FaultNone {
			break
		}
		hand(tx)
		report.Frames++
		report.Good = end
		for _, r := range tx {
			report.Kinds[r.Kind]++
		}
	}
	report.At = report.Good
	report.Torn = len(data) - report.Good
	if report.Fault == api.FaultNone && report.Torn > 0 {
		report.Fault = api.FaultTorn
	}
	return report
}

// take does the transaction that a frame holds, if it plays; else it says what is wrong with it.
func (s scratch) take(payload []byte) (tx []api.Record, fault int) {
	tx, err := record.Unpack(payload)
	switch {
	case err != nil:
		return nil, api.FaultText
	case !s.plays(tx):
		return nil, api.FaultLost
	}
	return tx, api.FaultNone
}
