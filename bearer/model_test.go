package bearer_test

import (
	"net/url"
	"regexp"
	"slices"
	"strings"

	"usher/api"
)

// The model says what a call must answer, by the words of the chapter. It leans on none of the layers below: the grammars are expressions, over texts that wide has made.

const (
	fieldToken = "[!#$%&'*+.^_`|~0-9A-Za-z-]+"
	quotedForm = `"(?:[\t\x20-\x21\x23-\x5b\x5d-\x7e\x{80}-\x{ff}]|\\[\t\x20-\x7e\x{80}-\x{ff}])*"`
)

var (
	schemeForm = regexp.MustCompile("\\A[Bb][Ee][Aa][Rr][Ee][Rr](?:\\z|[^!#$%&'*+.^_`|~0-9A-Za-z-])")
	shownForm  = regexp.MustCompile(`(?s)\A.{6} +(.*)\z`)
	tokenForm  = regexp.MustCompile(`\A[0-9A-Za-z._~+/-]+=*\z`)
	pieceForm  = regexp.MustCompile(`\A(?:[!-$&-~]|%[0-9A-Fa-f]{2})*\z`)
	mediaForm  = regexp.MustCompile(`\A(` + fieldToken + `/` + fieldToken + `)(?:[\t ]*;[\t ]*(?:` + fieldToken + `=(?:` + fieldToken + `|` + quotedForm + `))?)*\z`)
	scopeForm  = regexp.MustCompile(`\A[\x21\x23-\x5b\x5d-\x7e]{1,32}\z`)
)

// wide makes a rune of each byte, so that an expression speaks of bytes; narrow turns it back.
func wide(s string) string {
	runes := make([]rune, len(s))
	for i := range runes {
		runes[i] = rune(s[i])
	}
	return string(runes)
}

func narrow(s string) string {
	var bytes []byte
	for _, r := range s {
		bytes = append(bytes, byte(r))
	}
	return string(bytes)
}

// lower makes the letters A to Z small, no others.
func lower(s string) string {
	return strings.Map(func(r rune) rune {
		if 'A' <= r && r <= 'Z' {
			return r + 'a' - 'A'
		}
		return r
	}, wide(s))
}

// valuesOf are the values of the fields of that name.
func valuesOf(q api.Request, name string) []string {
	var list []string
	for _, f := range q.Fields {
		if lower(f.Name) == name {
			list = append(list, f.Value)
		}
	}
	return list
}

func isForm(q api.Request) bool {
	types := valuesOf(q, "content-type")
	if q.Method != "POST" || len(types) != 1 {
		return false
	}
	parts := mediaForm.FindStringSubmatch(wide(types[0]))
	return parts != nil && lower(parts[1]) == form
}

// shownIn are the values of access_token that count in a form or query; false: that cannot be read.
func shownIn(s string) (list []string, ok bool) {
	pieces := slices.DeleteFunc(strings.Split(s, "&"), func(piece string) bool { return piece == "" })
	if len(pieces) > 32 {
		return nil, false
	}
	for _, piece := range pieces {
		if !pieceForm.MatchString(wide(piece)) {
			return nil, false
		}
		name, value, _ := strings.Cut(piece, "=")
		name, _ = url.QueryUnescape(name)
		value, _ = url.QueryUnescape(value)
		if name == "access_token" && value != "" {
			list = append(list, value)
		}
	}
	return list, true
}

// modelFind is P22.1.
func modelFind(q api.Request) (string, error) {
	var shown []string
	if isForm(q) {
		list, ok := shownIn(q.Body)
		if !ok {
			return "", api.ErrText
		}
		shown = append(shown, list...)
	}
	if at := strings.IndexByte(q.Target, '?'); at >= 0 {
		list, ok := shownIn(q.Target[at+1:])
		if !ok {
			return "", api.ErrText
		}
		shown = append(shown, list...)
	}
	fields := valuesOf(q, "authorization")
	if len(fields) == 1 && schemeForm.MatchString(wide(fields[0])) {
		behind := ""
		if parts := shownForm.FindStringSubmatch(wide(fields[0])); parts != nil {
			behind = narrow(parts[1])
		}
		shown = append(shown, behind)
	}
	switch {
	case len(fields) > 1 || len(shown) > 1:
		return "", api.ErrTwice
	case len(shown) == 0:
		return "", api.ErrLost
	case !tokenForm.MatchString(wide(shown[0])):
		return "", api.ErrText
	}
	return shown[0], nil
}

// onTime is the time that counts.
func onTime(now int) int {
	switch {
	case now < 0:
		return 0
	case now > last:
		return last
	}
	return now
}

// memberOf is the member of an answer of that name and kind, and whether it is there.
func memberOf(answer []api.Member, name string, kind int) (api.Member, bool) {
	list := slices.DeleteFunc(slices.Clone(answer), func(m api.Member) bool { return m.Name != name })
	if len(list) != 1 || list[0].Kind != kind {
		return api.Member{}, false
	}
	return list[0], true
}

// scopesOf is the scopes of a text, rising, each once; none, if it is no such text.
func scopesOf(s string) []string {
	list := strings.Split(s, " ")
	for _, scope := range list {
		if !scopeForm.MatchString(wide(scope)) {
			return nil
		}
	}
	slices.Sort(list)
	list = slices.Compact(list)
	if len(list) > 16 {
		return nil
	}
	return list
}

func isScope(s string) bool { return scopeForm.MatchString(wide(s)) }

func holds(all, part []string) bool {
	return !slices.ContainsFunc(part, func(s string) bool { return !slices.Contains(all, s) })
}

// entry is what is remembered of a token.
type entry struct {
	token, user, client string
	scopes              []string
	until               int
}

// model is a guard as a row of entries, in the order in which they were told.
type model struct {
	life    int
	entries []entry
}

// good is what an answer tells; false: it is not good at that time.
func (m *model) good(now int, token string, answer []api.Member) (entry, bool) {
	counts, _ := memberOf(answer, "active", api.MemFlag)
	exp, ends := memberOf(answer, "exp", api.MemNum)
	if !counts.Flag || ends && exp.Num <= now {
		return entry{}, false
	}
	user, _ := memberOf(answer, "username", api.MemText)
	client, _ := memberOf(answer, "client_id", api.MemText)
	e := entry{token: token, user: user.Text, client: client.Text, until: now + m.life}
	if scope, there := memberOf(answer, "scope", api.MemText); there {
		e.scopes = scopesOf(scope.Text)
	}
	if ends && exp.Num < e.until {
		e.until = exp.Num
	}
	return e, true
}

// remember is P22.4.
func (m *model) remember(now int, e entry) {
	if m.life == 0 {
		return
	}
	m.entries = slices.DeleteFunc(m.entries, func(other entry) bool { return now >= other.until || other.token == e.token })
	if len(m.entries) == most {
		m.entries = m.entries[1:]
	}
	m.entries = append(m.entries, e)
}

// check is P22.3: the decision, and about what it asks.
func (m *model) check(now int, q api.Request, need []string, answer []api.Member) (api.Access, []string) {
	token, err := modelFind(q)
	if err == api.ErrLost {
		return unshown, nil
	}
	if err != nil {
		return unread, nil
	}
	now = onTime(now)
	var asked []string
	var e entry
	if at := slices.IndexFunc(m.entries, func(e entry) bool { return e.token == token && now < e.until }); at >= 0 {
		e = m.entries[at]
	} else {
		asked = []string{token}
		var good bool
		if e, good = m.good(now, token, answer); !good {
			return worthless, asked
		}
		m.remember(now, e)
	}
	if !holds(e.scopes, need) {
		return scarce(strings.Join(slices.DeleteFunc(slices.Clone(need), func(s string) bool { return !isScope(s) }), " ")), asked
	}
	return letIn(e.user, e.client, e.scopes...), asked
}

func (m *model) forget(token string) {
	m.entries = slices.DeleteFunc(m.entries, func(e entry) bool { return e.token == token })
}

func (m *model) held(now int) int {
	count := 0
	for _, e := range m.entries {
		if onTime(now) < e.until {
			count++
		}
	}
	return count
}

// said is what an ask has answered.
type said struct {
	token  string
	now    int
	answer []api.Member
}

// A ledger holds P22.6 against a guard: it knows what ask has said, and nothing of what is dropped but by Forget.
type ledger struct {
	life int
	said []said
}

func (l *ledger) forget(token string) {
	for i := range l.said {
		if l.said[i].token == token {
			l.said[i].answer = nil
		}
	}
}

// check is why a request that is let in may not be; empty, if nothing speaks against it.
func (l *ledger) check(now int, q api.Request, need []string, answer []api.Member, asked []string, got api.Access) string {
	now = onTime(now)
	for _, token := range asked {
		l.said = append(l.said, said{token, now, slices.Clone(answer)})
	}
	if got.Status != 200 {
		return ""
	}
	token, err := modelFind(q)
	if err != nil {
		return "what shows no token"
	}
	for i, s := range l.said {
		isNow := len(asked) > 0 && i == len(l.said)-1
		if s.token == token && (isNow || s.now+l.life > now) && allows(s.answer, now, need) {
			return ""
		}
	}
	return "a token of which nothing that counts was said"
}

// allows: does an answer say that a token counts at that time, with all these scopes?
func allows(answer []api.Member, now int, need []string) bool {
	counts, _ := memberOf(answer, "active", api.MemFlag)
	scope, _ := memberOf(answer, "scope", api.MemText)
	exp, ends := memberOf(answer, "exp", api.MemNum)
	return counts.Flag && holds(scopesOf(scope.Text), need) && (!ends || exp.Num > now)
}
