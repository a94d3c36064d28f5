package audit_test

import (
	"bytes"
	"encoding/binary"
	"fmt"
	"hash/crc32"
	"math"
	"reflect"
	"regexp"
	"slices"
	"sort"
	"strconv"
	"strings"

	"usher/api"
)

// The models here are written from the chapters; of the program they know package api alone.

// lays is, for each kind, the fields that it names in the order in which they lie in bytes.
var lays = map[int]string{
	1:  "ID User At",
	2:  "ID",
	3:  "Client Scopes User At",
	4:  "ID Redirect Challenge Client Scopes User At",
	5:  "ID",
	6:  "ID Code Client Scopes User At",
	7:  "ID",
	8:  "ID",
	9:  "ID Code Client Scopes User At",
	10: "ID",
	11: "Client User",
}

// columns is the chapter's table of lines.
var columns = map[int]string{
	1:  "session ID User At",
	2:  "ended ID",
	3:  "consent User Client At Scopes",
	4:  "code ID User Client Redirect Challenge At Scopes",
	5:  "redeemed ID",
	6:  "token ID User Client Code At Scopes",
	7:  "revoked ID",
	8:  "burned ID",
	9:  "refresh ID User Client Code At Scopes",
	10: "turned ID",
	11: "withdrawn User Client",
}

// allFields is every field of a record but its kind.
var allFields = []string{"ID", "User", "Client", "Redirect", "Challenge", "Code", "Scopes", "At"}

const (
	pathByteForm = `(?:[A-Za-z0-9._~!$&'()*+,;=:@-]|%[0-9A-Fa-f]{2})`
	restForm     = `(?:\?(?:` + pathByteForm + `|[/?])*)?`
	pathForm     = `(?:/(?:` + pathByteForm + `|/)*)?` + restForm
	labelForm    = `[A-Za-z0-9](?:[A-Za-z0-9-]{0,61}[A-Za-z0-9])?`
	hostForm     = `(?:` + labelForm + `(?:\.` + labelForm + `)*|\[[0-9A-Fa-f:.]+\])`
	portForm     = `(?::([1-9][0-9]{0,4}))?`
	webForm      = `(?:https://` + hostForm + `|http://(?:localhost|127\.0\.0\.1|\[::1\]))` + portForm + pathForm
	privateForm  = `[a-z][a-z0-9+-]*\.[a-z0-9.+-]*:/(?:` + pathByteForm + `(?:` + pathByteForm + `|/)*)?` + restForm
	idForm       = `[A-Za-z0-9_-]{42}[AEIMQUYcgkosw048]`
	nameForm     = `[!-~]{1,64}`
	scopeForm    = `[!#-\[\]-~]{1,32}`
)

// forms is what may stand in a field, as texts.
var forms = map[string]*regexp.Regexp{
	"ID":        regexp.MustCompile(`\A` + idForm + `\z`),
	"Code":      regexp.MustCompile(`\A` + idForm + `\z`),
	"User":      regexp.MustCompile(`\A` + nameForm + `\z`),
	"Client":    regexp.MustCompile(`\A` + nameForm + `\z`),
	"Challenge": regexp.MustCompile(`\A[A-Za-z0-9._~-]{43,128}\z`),
	"Redirect":  regexp.MustCompile(`\A(?:` + webForm + `|` + privateForm + `)\z`),
	"Scopes":    regexp.MustCompile(`\A` + scopeForm + `(?: ` + scopeForm + `){0,15}\z`),
	"At":        regexp.MustCompile(`\A(?:0|[1-9][0-9]{0,12})\z`),
}

// wide makes a rune of each byte, so that an expression speaks of bytes.
func wide(s string) string {
	runes := make([]rune, len(s))
	for i := range runes {
		runes[i] = rune(s[i])
	}
	return string(runes)
}

// modelFits: may that text stand in a line for that field?
func modelFits(field, text string) bool {
	found := forms[field].FindStringSubmatch(wide(text))
	switch {
	case found == nil:
		return false
	case field == "Redirect":
		port, _ := strconv.Atoi(found[1])
		return len(text) <= 512 && port <= 65535
	case field == "Scopes":
		scopes := strings.Split(text, " ")
		return slices.IsSorted(scopes) && len(slices.Compact(scopes)) == strings.Count(text, " ")+1
	case field == "At":
		at, _ := strconv.Atoi(text)
		return at <= 1<<40
	}
	return true
}

func get(r api.Record, field string) any {
	return reflect.ValueOf(r).FieldByName(field).Interface()
}

// with is r with that value in that field.
func with(r api.Record, field string, value any) api.Record {
	reflect.ValueOf(&r).Elem().FieldByName(field).Set(reflect.ValueOf(value))
	return r
}

// textOf is a field as it stands in a line.
func textOf(r api.Record, field string) string {
	if list, ok := get(r, field).([]string); ok {
		return strings.Join(list, " ")
	}
	return fmt.Sprint(get(r, field))
}

// modelCheck: may r be so?
func modelCheck(r api.Record) bool {
	for _, field := range allFields {
		isNamed := slices.Contains(strings.Fields(lays[r.Kind]), field)
		value := reflect.ValueOf(r).FieldByName(field)
		isEmpty := value.IsZero() || value.Kind() == reflect.Slice && value.Len() == 0
		if !isNamed && !isEmpty || isNamed && !modelFits(field, textOf(r, field)) {
			return false
		}
	}
	hasBlank := slices.ContainsFunc(r.Scopes, func(s string) bool { return strings.Contains(s, " ") })
	return lays[r.Kind] != "" && !hasBlank
}

// modelLine is the line of a record that may be so.
func modelLine(r api.Record) string {
	parts := strings.Fields(columns[r.Kind])
	for i, field := range parts[1:] {
		parts[1+i] = textOf(r, field)
	}
	return strings.Join(parts, " ")
}

// modelReadLine is the record that is written as s, if there is one: the first words go to the fields one by one, the last field takes all that is left.
func modelReadLine(s string) (api.Record, bool) {
	for kind, column := range columns {
		fields := strings.Fields(column)
		parts := strings.SplitN(s, " ", len(fields))
		if len(parts) != len(fields) || parts[0] != fields[0] {
			continue
		}
		r := api.Record{Kind: kind}
		for i, field := range fields[1:] {
			text := parts[1+i]
			if !modelFits(field, text) {
				return api.Record{}, false
			}
			switch field {
			case "At":
				r.At, _ = strconv.Atoi(text)
			case "Scopes":
				r.Scopes = strings.Split(text, " ")
			default:
				r = with(r, field, text)
			}
		}
		return r, true
	}
	return api.Record{}, false
}

func appendText(out []byte, text string) []byte {
	return append(binary.AppendUvarint(out, uint64(len(text))), text...)
}

// modelEncode writes r as it lies in bytes, whether it may be so or not.
func modelEncode(r api.Record) []byte {
	out := []byte{byte(r.Kind)}
	for _, field := range strings.Fields(lays[r.Kind]) {
		switch value := get(r, field).(type) {
		case string:
			out = appendText(out, value)
		case []string:
			out = binary.AppendUvarint(out, uint64(len(value)))
			for _, text := range value {
				out = appendText(out, text)
			}
		case int:
			out = binary.AppendUvarint(out, uint64(value))
		}
	}
	return out
}

func modelPack(tx []api.Record) []byte {
	out := []byte{byte(len(tx))}
	for _, r := range tx {
		out = appendText(out, string(modelEncode(r)))
	}
	return out
}

// modelReader reads whatever it finds, in any spelling, and never past the end: what it finds is written anew and held against the bytes.
type modelReader struct{ *bytes.Reader }

func (m modelReader) number() int {
	n, err := binary.ReadUvarint(m)
	if err != nil || n > math.MaxInt {
		return -1
	}
	return int(n)
}

func (m modelReader) text() string {
	text := make([]byte, max(0, min(m.number(), m.Len())))
	m.Read(text)
	return string(text)
}

func (m modelReader) list() []string {
	var list []string
	for count := m.number(); count > 0 && m.Len() > 0; count-- {
		list = append(list, m.text())
	}
	return list
}

func modelDecode(p string) (api.Record, bool) {
	from := modelReader{bytes.NewReader([]byte(p))}
	kind, _ := from.ReadByte()
	r := api.Record{Kind: int(kind)}
	for _, field := range strings.Fields(lays[r.Kind]) {
		switch get(r, field).(type) {
		case string:
			r = with(r, field, from.text())
		case []string:
			r = with(r, field, from.list())
		case int:
			r = with(r, field, from.number())
		}
	}
	return r, modelCheck(r) && string(modelEncode(r)) == p
}

// modelUnpack is the transaction that is written as p, if there is one.
func modelUnpack(p []byte) ([]api.Record, bool) {
	from := modelReader{bytes.NewReader(p)}
	var tx []api.Record
	for count := from.number(); count > 0 && len(tx) < 5 && from.Len() > 0; count-- {
		r, ok := modelDecode(from.text())
		if !ok {
			return nil, false
		}
		tx = append(tx, r)
	}
	return tx, len(tx) >= 1 && len(tx) <= 4 && bytes.Equal(modelPack(tx), p)
}

// frameOf is the frame of any payload, such as may not be too.
func frameOf(payload []byte) []byte {
	size := binary.BigEndian.AppendUint32(nil, uint32(len(payload)))
	sum := crc32.ChecksumIEEE(join(size, payload))
	return join(size, binary.BigEndian.AppendUint32(nil, sum), payload)
}

// modelFrame is the payload of the sound frame with which data begins, if there is one.
func modelFrame(data []byte) ([]byte, bool) {
	if len(data) < 8 {
		return nil, false
	}
	size := int(binary.BigEndian.Uint32(data))
	if size < 1 || size > 8192 || 8+size > len(data) {
		return nil, false
	}
	payload := data[8 : 8+size]
	return payload, bytes.HasPrefix(data, frameOf(payload))
}

// A model of what is kept is nothing but the row of the records that have applied, in their order: a thing is there if a record has brought it, and it is ended, used, burned or revoked if a later record says so.
type model []api.Record

// says: is there a record of that kind and identifier at the place from or behind it?
func (m model) says(kind int, id string, from int) bool {
	return slices.ContainsFunc(m[from:], func(r api.Record) bool { return r.Kind == kind && r.ID == id })
}

// isWithdrawn: has that user taken back what they allowed that client, at the place from or behind it?
func (m model) isWithdrawn(w who, from int) bool {
	return slices.ContainsFunc(m[from:], func(r api.Record) bool {
		return r.Kind == api.RecWithdrawn && w == who{r.User, r.Client}
	})
}

// place is where the record stands that has brought the thing of that identifier; -1 if there is none.
func (m model) place(id string, kinds ...int) int {
	return slices.IndexFunc(m, func(r api.Record) bool { return r.ID == id && slices.Contains(kinds, r.Kind) })
}

func (m model) isUsed(place int) bool {
	return m.says(api.RecRedeemed, m[place].ID, place) || m.isWithdrawn(who{m[place].User, m[place].Client}, place)
}

func (m model) isBurned(place int) bool {
	return m.says(api.RecBurned, m[place].ID, place) || m.isWithdrawn(who{m[place].User, m[place].Client}, place)
}

// consentOf is the place of the last consent of that user and client; -1 if there is none, or if it was taken back.
func (m model) consentOf(w who) int {
	for i, r := range slices.Backward(m) {
		if w == (who{r.User, r.Client}) && (r.Kind == api.RecConsent || r.Kind == api.RecWithdrawn) {
			if r.Kind == api.RecConsent {
				return i
			}
			return -1
		}
	}
	return -1
}

// applies: may r stand behind the records that are there?
func (m model) applies(r api.Record) bool {
	bringing := []int{api.RecSession, api.RecCode, api.RecToken, api.RecRefresh}
	if slices.Contains(bringing, r.Kind) && m.place(r.ID, bringing...) >= 0 {
		return false
	}
	switch r.Kind {
	case api.RecEnded:
		return m.place(r.ID, api.RecSession) >= 0 && !m.says(api.RecEnded, r.ID, 0)
	case api.RecRedeemed:
		place := m.place(r.ID, api.RecCode)
		return place >= 0 && !m.isUsed(place)
	case api.RecBurned:
		place := m.place(r.ID, api.RecCode)
		return place >= 0 && m.isUsed(place) && !m.isBurned(place)
	case api.RecTurned:
		return m.place(r.ID, api.RecRefresh) >= 0 && !m.says(api.RecTurned, r.ID, 0)
	case api.RecRevoked:
		return m.place(r.ID, api.RecToken) >= 0 && !m.says(api.RecRevoked, r.ID, 0)
	case api.RecWithdrawn:
		return m.consentOf(who{r.User, r.Client}) >= 0
	case api.RecToken, api.RecRefresh:
		place := m.place(r.Code, api.RecCode)
		return place >= 0 && m.isUsed(place) && !m.isBurned(place) &&
			m[place].User == r.User && m[place].Client == r.Client && holds(m[place].Scopes, r.Scopes)
	}
	return true
}

// holds: is each of part among all?
func holds(all, part []string) bool {
	return !slices.ContainsFunc(part, func(s string) bool { return !slices.Contains(all, s) })
}

// with is the model behind a transaction, if it applies.
func (m model) with(tx []api.Record) (model, bool) {
	next := slices.Clip(m)
	for _, r := range tx {
		if !next.applies(r) {
			return m, false
		}
		next = append(next, r)
	}
	return next, true
}

// state is what the records have led to.
func (m model) state() api.State {
	var s api.State
	for i, r := range m {
		switch r.Kind {
		case api.RecSession:
			s.Sessions = append(s.Sessions, api.Session{ID: r.ID, User: r.User, At: r.At, Ended: m.says(api.RecEnded, r.ID, i)})
		case api.RecConsent:
			if m.consentOf(who{r.User, r.Client}) == i {
				s.Consents = append(s.Consents, api.Consent{User: r.User, Client: r.Client, Scopes: r.Scopes, At: r.At})
			}
		case api.RecCode:
			s.Codes = append(s.Codes, api.Code{ID: r.ID, Client: r.Client, User: r.User, Redirect: r.Redirect, Challenge: r.Challenge, Scopes: r.Scopes, At: r.At, Used: m.isUsed(i), Burned: m.isBurned(i)})
		case api.RecToken:
			s.Tokens = append(s.Tokens, api.Token{ID: r.ID, Client: r.Client, User: r.User, Code: r.Code, Scopes: r.Scopes, At: r.At, Revoked: m.says(api.RecRevoked, r.ID, i)})
		case api.RecRefresh:
			s.Refreshes = append(s.Refreshes, api.Refresh{ID: r.ID, Client: r.Client, User: r.User, Code: r.Code, Scopes: r.Scopes, At: r.At, Used: m.says(api.RecTurned, r.ID, i)})
		}
	}
	sort.Slice(s.Sessions, func(i, j int) bool { return s.Sessions[i].ID < s.Sessions[j].ID })
	sort.Slice(s.Codes, func(i, j int) bool { return s.Codes[i].ID < s.Codes[j].ID })
	sort.Slice(s.Tokens, func(i, j int) bool { return s.Tokens[i].ID < s.Tokens[j].ID })
	sort.Slice(s.Refreshes, func(i, j int) bool { return s.Refreshes[i].ID < s.Refreshes[j].ID })
	sort.Slice(s.Consents, func(i, j int) bool {
		a, b := s.Consents[i], s.Consents[j]
		return a.User < b.User || a.User == b.User && a.Client < b.Client
	})
	return s
}

// seen is what there is to be said of the bytes of a log.
type seen struct {
	report api.Report
	txs    [][]api.Record // of the head that plays
	row    model
}

// modelLook takes one frame after the other off the bytes.
func modelLook(data []byte) seen {
	var s seen
	rest, fault := data, api.FaultNone
	for len(rest) > 0 && fault == api.FaultNone {
		payload, isSound := modelFrame(rest)
		if !isSound {
			fault = api.FaultTorn
			break
		}
		tx, isTransaction := modelUnpack(payload)
		next, applies := s.row.with(tx)
		switch {
		case !isTransaction:
			fault = api.FaultText
		case !applies:
			fault = api.FaultLost
		default:
			s.txs, s.row, rest = append(s.txs, tx), next, rest[8+len(payload):]
		}
	}
	s.report = api.Report{Frames: len(s.txs), Good: len(data) - len(rest), Torn: len(rest), Fault: fault, At: len(data) - len(rest)}
	for _, r := range s.row {
		s.report.Kinds[r.Kind]++
	}
	return s
}

func modelDump(txs [][]api.Record) []string {
	var lines []string
	for _, tx := range txs {
		lines = append(lines, fmt.Sprintf("transaction %d", len(tx)))
		for _, r := range tx {
			lines = append(lines, modelLine(r))
		}
	}
	return lines
}

// modelLoad reads all blocks ahead of playing any.
func modelLoad(lines []string) ([]byte, error) {
	var txs [][]api.Record
	for i := 0; i < len(lines); {
		count := slices.Index([]string{"transaction 1", "transaction 2", "transaction 3", "transaction 4"}, lines[i]) + 1
		if count == 0 || i+count >= len(lines) {
			return nil, api.ErrText
		}
		var tx []api.Record
		for _, line := range lines[i+1 : i+1+count] {
			r, ok := modelReadLine(line)
			if !ok {
				return nil, api.ErrText
			}
			tx = append(tx, r)
		}
		txs = append(txs, tx)
		i += 1 + count
	}
	if data := row(txs...); modelLook(data).report.Fault == api.FaultNone {
		return data, nil
	}
	return nil, api.ErrLog
}
