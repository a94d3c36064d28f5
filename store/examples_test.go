package store_test

import (
	"testing"

	"usher/api"
	"usher/disk"
)

// TestExamples goes down the chapter's table.
func TestExamples(t *testing.T) {
	s1, c1, c2 := id(1), id(11), id(12)
	t1, t2, t3, r1, r2 := id(21), id(22), id(23), id(31), id(32)
	s := mustOpen(t, disk.New(10000))

	mustCommit(t, s, nil, session(s1, "ann", 5))
	if got, ok := s.Session(s1); !ok || got != (api.Session{ID: s1, User: "ann", At: 5}) {
		t.Errorf("Session(S1) = %v, %v", got, ok)
	}
	mustCommit(t, s, api.ErrTaken, session(s1, "bob", 6))
	mustCommit(t, s, api.ErrTaken, code(s1, anns, 6, "a"))
	mustCommit(t, s, api.ErrLost, ended(s1), ended(s1))
	if got, ok := s.Session(s1); !ok || got.Ended {
		t.Errorf("Session(S1) = %v, %v, want one that is not ended", got, ok)
	}

	mustCommit(t, s, api.ErrLost, redeemed(c1))
	mustCommit(t, s, nil, code(c1, anns, 7, "a", "b"))
	mustCommit(t, s, api.ErrLost, token(t1, c1, anns, 8, "a"))
	mustCommit(t, s, nil, redeemed(c1), token(t1, c1, anns, 8, "a"))
	mustCommit(t, s, nil, refresh(r1, c1, anns, 8, "a", "b"))
	if got, ok := s.Refresh(r1); !ok || got.ID != r1 || got.Used {
		t.Errorf("Refresh(R1) = %v, %v, want one that is not used", got, ok)
	}
	mustCommit(t, s, api.ErrTaken, turned(r1), token(t2, c1, anns, 9, "b"), refresh(r1, c1, anns, 9, "a"))
	if got, ok := s.Refresh(r1); !ok || got.Used {
		t.Errorf("Refresh(R1) = %v, %v, want one that is not used", got, ok)
	}
	mustCommit(t, s, nil, turned(r1), token(t2, c1, anns, 9, "b"), refresh(r2, c1, anns, 9, "a"))
	mustCommit(t, s, api.ErrLost, turned(r1))
	mustCommit(t, s, api.ErrLost, token(t3, c1, anns, 9, "c"))
	mustCommit(t, s, nil, burned(c1))
	mustCommit(t, s, api.ErrLost, burned(c1))
	mustCommit(t, s, api.ErrLost, token(t3, c1, anns, 9, "a"))
	mustCommit(t, s, nil, turned(r2))

	mustCommit(t, s, nil, consent(anns, 10, "a"), code(c2, anns, 10, "a"))
	mustCommit(t, s, nil, withdrawn(anns))
	if got, ok := s.Consent("ann", "app"); ok {
		t.Errorf("Consent(ann, app) = %v, want none", got)
	}
	if got, ok := s.Code(c2); !ok || !got.Used || !got.Burned {
		t.Errorf("Code(C2) = %v, %v, want one that is used and burned", got, ok)
	}
	mustCommit(t, s, api.ErrLost, withdrawn(anns))
	mustCommit(t, s, api.ErrLost, redeemed(c2))
	mustCommit(t, s, api.ErrArg)
}

// TestTheDocumentsRun is the log of DOC.md's whole run: four frames, and the bytes with which the first begins.
func TestTheDocumentsRun(t *testing.T) {
	a, b, c := id(0), id(1), id(2)
	granted := code(b, anns, 5, "read")
	granted.Challenge = "E9Melhoa2OwvFrEMTJguCHaoeK1t8URWbuGJSstw-cM"
	txs := [][]api.Record{
		tx(session(a, "ann", 0)),
		tx(consent(anns, 5, "read"), granted),
		tx(redeemed(b), token(c, b, anns, 15, "read")),
		tx(revoked(c)),
	}
	s, d := begun(t, txs...)
	got, synced := d.Look()
	if want := 52 + 144 + 152 + 47 + 4*8; len(got) != want || synced != want {
		t.Fatalf("P15.2: %d bytes lie on the disk, %d synced, want %d", len(got), synced, want)
	}
	if want := "\x00\x00\x00\x34\x6c\x4f\x0c\x1c\x01\x32\x01\x2b\x41\x41"; string(got[:14]) != want {
		t.Errorf("P15.2: the log begins with %x, want %x", got[:14], want)
	}
	if got, ok := s.Token(c); !ok || !got.Revoked || got.At != 15 || got.Code != b {
		t.Errorf("P15.4: Token = %v, %v", got, ok)
	}
}
