package world_test

import (
	"slices"
	"strings"

	"usher/api"
)

// checkBrake: W14.
func (l *ledger) checkBrake() {
	l.t.Helper()
	fails, lock := l.config.Fails, l.config.LockTime
	wrong := map[string][]int{} // the times of the wrong passwords of a user, one behind the other
	for _, e := range l.tape {
		user := e.once("user")
		if e.behind.Boots > e.before.Boots {
			wrong = map[string][]int{}
			continue
		}
		_, isUser := find(l.config.Users, func(u api.User) bool { return u.Name == user })
		if !e.is("POST", "/login") || !isUser || e.once("pass") == "" {
			if e.status() == 429 {
				l.t.Fatalf("W14: %q is braked", e.step.Data)
			}
			continue
		}
		isClose := func(times []int) bool { // each less than LockTime behind the one ahead of it
			for i := 1; i < len(times); i++ {
				if times[i]-times[i-1] >= lock {
					return false
				}
			}
			return true
		}
		times := wrong[user]
		last := times[max(0, len(times)-max(fails, 1)):]
		isLocked := fails > 0 && lock > 0 && len(last) == fails && isClose(append(slices.Clone(last), e.now))
		if (e.status() == 429) != isLocked {
			l.t.Fatalf("W14: at %d %q is answered %d, behind wrong passwords at %d (fails %d, lock %d)", e.now, e.step.Data, e.status(), times, fails, lock)
		}
		switch {
		case e.status() == 403:
			wrong[user] = append(times, e.now)
			if n := len(wrong[user]); fails > 0 && lock > 0 && n > fails && isClose(wrong[user][n-fails-1:]) {
				l.t.Fatalf("W14: %d wrong passwords at %d", fails+1, wrong[user])
			}
		case e.status() != 429:
			wrong[user] = nil
		}
	}
}

// checkPlaces: W15.
func (l *ledger) checkPlaces() {
	l.t.Helper()
	for _, e := range l.tape {
		to := e.location()
		if (to != "") != (e.status() == 303) {
			l.t.Fatalf("P19.5: %q is answered %q", e.step.Data, e.text)
		}
		if to == "" || strings.HasPrefix(to, "/") && !strings.HasPrefix(to, "//") && !strings.HasPrefix(to, `/\`) {
			continue
		}
		c, _ := find(l.config.Clients, func(c api.Client) bool { return c.ID == e.once("client_id") })
		isRegistered := slices.ContainsFunc(c.Redirects, func(known string) bool {
			rest, found := strings.CutPrefix(to, known)
			rest = strings.TrimLeft(rest, "?&")
			return found && known == e.once("redirect_uri") && (strings.HasPrefix(rest, "code=") || strings.HasPrefix(rest, "error="))
		})
		if !isRegistered || e.path != "/authorize" && e.path != "/consent" {
			l.t.Fatalf("W15: %q is sent to %q", e.step.Data, to)
		}
	}
}

// changed are the things that were not there before, or not so; and how many are gone.
func changed[T any](before, behind []T, isSameThing, isEqual func(a, b T) bool) (list []T, gone int) {
	for _, v := range behind {
		old, was := find(before, func(o T) bool { return isSameThing(o, v) })
		if !was || !isEqual(old, v) {
			list = append(list, v)
		}
	}
	for _, v := range before {
		if _, is := find(behind, func(o T) bool { return isSameThing(o, v) }); !is {
			gone++
		}
	}
	return list, gone
}

// checkOwners: W16; whether it was answered or not, what a request changes belongs to its sender.
func (l *ledger) checkOwners() {
	l.t.Helper()
	for _, e := range l.tape {
		a, b := e.before.State, e.behind.State
		if isSameState(a, b) {
			continue
		}
		sessions, gone1 := changed(a.Sessions, b.Sessions, func(x, y api.Session) bool { return x.ID == y.ID }, func(x, y api.Session) bool { return x == y })
		consents, taken := changed(a.Consents, b.Consents, func(x, y api.Consent) bool { return x.User == y.User && x.Client == y.Client }, func(x, y api.Consent) bool { return x.At == y.At && slices.Equal(x.Scopes, y.Scopes) })
		codes, gone2 := changed(a.Codes, b.Codes, func(x, y api.Code) bool { return x.ID == y.ID }, func(x, y api.Code) bool { return x.Used == y.Used && x.Burned == y.Burned })
		tokens, gone3 := changed(a.Tokens, b.Tokens, func(x, y api.Token) bool { return x.ID == y.ID }, func(x, y api.Token) bool { return x.Revoked == y.Revoked })
		refreshes, gone4 := changed(a.Refreshes, b.Refreshes, func(x, y api.Refresh) bool { return x.ID == y.ID }, func(x, y api.Refresh) bool { return x.Used == y.Used })
		s, lives := l.session(e)
		c, isShown := l.client(e)
		named := e.once("client_id")
		isFront := lives && (e.is("GET", "/authorize") || e.is("POST", "/consent") || e.is("POST", "/withdraw"))
		isDesk := isShown && (e.is("POST", "/token") || e.is("POST", "/revoke"))
		isOther := gone1+gone2+gone3+gone4 > 0 || taken > 1 || !e.isRequest
		for _, v := range sessions {
			isBegun := l.isRightLogin(e) && v.User == e.once("user") && !v.Ended
			isEnded := e.is("POST", "/logout") && lives && v.ID == s.ID && v.Ended
			isOther = isOther || !isBegun && !isEnded
		}
		for _, v := range consents {
			isOther = isOther || !isFront || e.path != "/consent" || v.User != s.User || v.Client != named
		}
		if taken == 1 {
			_, had := consentOf(a, s.User, named)
			_, has := consentOf(b, s.User, named)
			isOther = isOther || !isFront || e.path != "/withdraw" || !had || has
		}
		for _, v := range codes {
			isTheirs := isFront && v.User == s.User && v.Client == named || isDesk && v.Client == c.ID
			isOther = isOther || !isTheirs
		}
		for _, v := range tokens {
			isOther = isOther || !isDesk || v.Client != c.ID
		}
		for _, v := range refreshes {
			isOther = isOther || !isDesk || v.Client != c.ID
		}
		if isOther {
			l.t.Fatalf("W16: %q has made of %+v %+v", e.step.Data, a, b)
		}
	}
}

// checkWriters: W21; also for requests amid which the power failed.
func (l *ledger) checkWriters() {
	l.t.Helper()
	for _, e := range l.tape {
		if !strings.HasPrefix(e.behind.Disk, e.before.Disk) {
			l.t.Fatalf("W17: the log does something else than grow: %+v", e.step)
		}
		if e.behind.Disk == e.before.Disk {
			continue
		}
		s := e.before.State
		_, lives := l.session(e)
		c, isShown := l.client(e)
		isOwn := false
		if code, ok := codeOf(s, e.once("code")); ok {
			isOwn = isOwn || code.Client == c.ID
		}
		for _, name := range []string{"token", "refresh_token"} {
			if r, ok := refreshOf(s, e.once(name)); ok {
				isOwn = isOwn || r.Client == c.ID
			}
			if v, ok := tokenOf(s, e.once(name)); ok {
				isOwn = isOwn || v.Client == c.ID
			}
		}
		if !l.isRightLogin(e) && !lives && !(isShown && isOwn) {
			l.t.Fatalf("W21: %q lets the log grow", e.step.Data)
		}
	}
}

// identifiers are all that a state has.
func identifiers(s api.State) map[string]string {
	list := map[string]string{}
	for _, v := range s.Sessions {
		list[v.ID] = "session"
	}
	for _, v := range s.Codes {
		list[v.ID] = "code"
	}
	for _, v := range s.Tokens {
		list[v.ID] = "access_token"
	}
	for _, v := range s.Refreshes {
		list[v.ID] = "refresh_token"
	}
	return list
}

// checkSecrets: W20; an identifier stands in the answer that gives it out, and in those to requests that name it. And each is that of a draw, in the order of the draws.
func (l *ledger) checkSecrets() {
	l.t.Helper()
	given := map[string]int{}
	all := identifiers(l.tape[len(l.tape)-1].behind.State)
	for _, e := range l.tape {
		before, behind := identifiers(e.before.State), identifiers(e.behind.State)
		for id := range all {
			if !strings.Contains(e.text, id) || strings.Contains(e.step.Data, id) {
				continue
			}
			kind := behind[id]
			sid, _ := e.answer.sid()
			place := map[string]string{"session": sid, "code": e.answer.code(), "access_token": e.answer.member("access_token"), "refresh_token": e.answer.member("refresh_token")}[kind]
			given[id]++
			if before[id] != "" || place != id || given[id] > 1 || strings.Count(e.text, id) != 1 {
				l.t.Fatalf("W20: the %s %s stands in the answer %q to %q", kind, id, e.text, e.step.Data)
			}
		}
	}
	var drawn []string
	for _, e := range l.tape {
		if e.step.Kind == api.StepDraw {
			drawn = append(drawn, idOf(e.step.Data))
		}
		for id := range identifiers(e.behind.State) {
			if identifiers(e.before.State)[id] == "" && !slices.Contains(drawn, id) {
				l.t.Fatalf("W20: %s is no draw's", id)
			}
		}
	}
	at := 0
	for _, id := range logged(l.tape[len(l.tape)-1].behind.Disk) {
		for at < len(drawn) && drawn[at] != id {
			at++
		}
		if at == len(drawn) {
			l.t.Fatalf("W20: %s is not in the order of the draws", id)
		}
		at++
	}
}

// logged are the identifiers of a log in the order in which they were given out. A record that gives one out has it behind its kind and its length.
func logged(disk string) []string {
	var list []string
	for len(disk) > 8 {
		size := int(disk[2])<<8 | int(disk[3])
		payload := disk[8 : 8+size]
		disk = disk[8+size:]
		count := int(payload[0])
		payload = payload[1:]
		for range count {
			length, wide := int(payload[0]), 1
			if length >= 128 {
				length, wide = length-128+128*int(payload[1]), 2
			}
			record := payload[wide : wide+length]
			payload = payload[wide+length:]
			if k := record[0]; k == 1 || k == 4 || k == 6 || k == 9 {
				list = append(list, record[2:45])
			}
		}
	}
	return list
}
