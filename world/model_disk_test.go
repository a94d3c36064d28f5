package world_test

import (
	"encoding/binary"
	"hash/crc32"
	"slices"
	"strings"

	"usher/api"
)

type modelArm struct{ after, keep int }

// modelDisk: chapter 12.
type modelDisk struct {
	data         []byte
	synced, room int
	arms         []modelArm
	dead         bool
	operations   int
}

// fail: the power fails.
func (d *modelDisk) fail(keep int) {
	end := d.synced + min(max(keep, 0), len(d.data)-d.synced)
	d.data = d.data[:end:end]
	d.synced = end
	d.dead = true
}

// dies is the gate of an operation that does nothing more when it dies.
func (d *modelDisk) dies() bool { return d.diesBehind(nil) }

func (d *modelDisk) diesBehind(tail []byte) bool {
	d.operations++
	if len(d.arms) == 0 {
		return false
	}
	if d.arms[0].after > 0 {
		d.arms[0].after--
		return false
	}
	keep := d.arms[0].keep
	d.arms = slices.Clone(d.arms[1:])
	if len(d.data)+len(tail) <= d.room {
		d.data = append(d.data, tail...)
	}
	d.fail(keep)
	return true
}

// put is the log's Put: an Append and a Sync.
func (d *modelDisk) put(frame []byte) error {
	if d.diesBehind(frame) {
		return errModelDead
	}
	if len(d.data)+len(frame) > d.room {
		return errModelFull
	}
	d.data = append(d.data, frame...)
	if d.dies() {
		return errModelDead
	}
	d.synced = len(d.data)
	return nil
}

// modelFrame is a transaction, and how it lies on the disk.
type modelFrame struct {
	tx   []api.Record
	data []byte
}

// frameOf: chapters 13 and 14.
func frameOf(tx ...api.Record) modelFrame {
	payload := binary.AppendUvarint(nil, uint64(len(tx)))
	for _, r := range tx {
		text := recordBytes(r)
		payload = append(binary.AppendUvarint(payload, uint64(len(text))), text...)
	}
	data := binary.BigEndian.AppendUint32(nil, uint32(len(payload)))
	sum := crc32.ChecksumIEEE(append(slices.Clone(data), payload...))
	data = binary.BigEndian.AppendUint32(data, sum)
	return modelFrame{tx, append(data, payload...)}
}

func appendText(p []byte, texts ...string) []byte {
	for _, s := range texts {
		p = append(binary.AppendUvarint(p, uint64(len(s))), s...)
	}
	return p
}

func recordBytes(r api.Record) []byte {
	p := []byte{byte(r.Kind)}
	switch r.Kind {
	case 3:
	case 11:
		return appendText(p, r.Client, r.User)
	case 4:
		p = appendText(p, r.ID, r.Redirect, r.Challenge)
	case 6, 9:
		p = appendText(p, r.ID, r.Code)
	default:
		p = appendText(p, r.ID)
	}
	switch r.Kind {
	case 3, 4, 6, 9:
		p = appendText(p, r.Client)
		p = appendText(binary.AppendUvarint(p, uint64(len(r.Scopes))), r.Scopes...)
	}
	switch r.Kind {
	case 1, 3, 4, 6, 9:
		p = binary.AppendUvarint(appendText(p, r.User), uint64(r.At))
	}
	return p
}

// modelKept is the records of the log, one behind the other: what is kept is read out of them anew each time.
type modelKept struct{ records []api.Record }

func (k *modelKept) apply(tx []api.Record) { k.records = append(k.records, tx...) }

// state: chapter 15.
func (k *modelKept) state() api.State {
	var s api.State
	for _, r := range k.records {
		switch r.Kind {
		case 1:
			s.Sessions = append(s.Sessions, api.Session{ID: r.ID, User: r.User, At: r.At})
		case 3:
			s.Consents = slices.DeleteFunc(s.Consents, func(c api.Consent) bool { return c.User == r.User && c.Client == r.Client })
			s.Consents = append(s.Consents, api.Consent{User: r.User, Client: r.Client, Scopes: slices.Clone(r.Scopes), At: r.At})
		case 4:
			s.Codes = append(s.Codes, api.Code{ID: r.ID, Client: r.Client, User: r.User, Redirect: r.Redirect, Challenge: r.Challenge, Scopes: slices.Clone(r.Scopes), At: r.At})
		case 6:
			s.Tokens = append(s.Tokens, api.Token{ID: r.ID, Client: r.Client, User: r.User, Code: r.Code, Scopes: slices.Clone(r.Scopes), At: r.At})
		case 9:
			s.Refreshes = append(s.Refreshes, api.Refresh{ID: r.ID, Client: r.Client, User: r.User, Code: r.Code, Scopes: slices.Clone(r.Scopes), At: r.At})
		default:
			mark(&s, r)
		}
	}
	slices.SortFunc(s.Sessions, func(a, b api.Session) int { return strings.Compare(a.ID, b.ID) })
	slices.SortFunc(s.Consents, func(a, b api.Consent) int {
		if a.User != b.User {
			return strings.Compare(a.User, b.User)
		}
		return strings.Compare(a.Client, b.Client)
	})
	slices.SortFunc(s.Codes, func(a, b api.Code) int { return strings.Compare(a.ID, b.ID) })
	slices.SortFunc(s.Tokens, func(a, b api.Token) int { return strings.Compare(a.ID, b.ID) })
	slices.SortFunc(s.Refreshes, func(a, b api.Refresh) int { return strings.Compare(a.ID, b.ID) })
	return s
}

// mark does a record that changes what is there.
func mark(s *api.State, r api.Record) {
	for i := range s.Sessions {
		s.Sessions[i].Ended = s.Sessions[i].Ended || r.Kind == 2 && s.Sessions[i].ID == r.ID
	}
	for i := range s.Codes {
		c := &s.Codes[i]
		isTaken := r.Kind == 11 && c.User == r.User && c.Client == r.Client
		c.Used = c.Used || isTaken || r.Kind == 5 && c.ID == r.ID
		c.Burned = c.Burned || isTaken || r.Kind == 8 && c.ID == r.ID
	}
	for i := range s.Tokens {
		s.Tokens[i].Revoked = s.Tokens[i].Revoked || r.Kind == 7 && s.Tokens[i].ID == r.ID
	}
	for i := range s.Refreshes {
		s.Refreshes[i].Used = s.Refreshes[i].Used || r.Kind == 10 && s.Refreshes[i].ID == r.ID
	}
	if r.Kind == 11 {
		s.Consents = slices.DeleteFunc(s.Consents, func(c api.Consent) bool { return c.User == r.User && c.Client == r.Client })
	}
}

// The things of a state, by what they are named by.

func find[T any](list []T, is func(T) bool) (T, bool) {
	if i := slices.IndexFunc(list, is); i >= 0 {
		return list[i], true
	}
	var none T
	return none, false
}

func sessionOf(s api.State, id string) (api.Session, bool) {
	return find(s.Sessions, func(v api.Session) bool { return v.ID == id })
}

func consentOf(s api.State, user, client string) (api.Consent, bool) {
	return find(s.Consents, func(v api.Consent) bool { return v.User == user && v.Client == client })
}

func codeOf(s api.State, id string) (api.Code, bool) {
	return find(s.Codes, func(v api.Code) bool { return v.ID == id })
}

func tokenOf(s api.State, id string) (api.Token, bool) {
	return find(s.Tokens, func(v api.Token) bool { return v.ID == id })
}

func refreshOf(s api.State, id string) (api.Refresh, bool) {
	return find(s.Refreshes, func(v api.Refresh) bool { return v.ID == id })
}

func isKnown(s api.State, id string) bool {
	_, a := sessionOf(s, id)
	_, b := codeOf(s, id)
	_, c := tokenOf(s, id)
	_, d := refreshOf(s, id)
	return a || b || c || d
}
