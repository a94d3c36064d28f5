package server

import (
	"strconv"

	"usher/api"
	"usher/pct"
)

func (v *Server) home(q visit) (api.Reply, error) {
	sid := q.sid()
	user, lives := v.front.Who(q.now, sid)
	if !lives {
		return pageAnswer(200, strangerPage()), nil
	}
	given, _ := v.front.Given(q.now, sid)
	// An older configuration may have had other clients: the page must not grow beyond what may be written.
	given = given[:min(len(given), api.MaxClients)]
	return pageAnswer(200, userPage(user, sid, given)), nil
}

func (v *Server) loginPage(q visit) (api.Reply, error) {
	return pageAnswer(200, api.Page{Title: loginTitle, Forms: []api.Form{loginForm(q.place())}}), nil
}

func (v *Server) login(q visit) (api.Reply, error) {
	user, users := pct.Get(q.params, userName)
	pass, passes := pct.Get(q.params, passName)
	if users != 1 || passes != 1 {
		return errorPage(400, api.InvalidRequest), nil
	}
	sid, err := v.front.Login(q.now, user, pass)
	switch err {
	case nil:
		return redirect(q.place(), sidCookie(sid, v.sessionLife)), nil
	case api.ErrDenied:
		return deniedAnswer(q.place()), nil
	case api.ErrMany:
		return lockedAnswer(v.front.Wait(q.now, user)), nil
	}
	return api.Reply{}, err
}

func deniedAnswer(next string) api.Reply {
	return pageAnswer(403, api.Page{
		Title: loginTitle,
		Lines: []string{"Wrong name or password."},
		Forms: []api.Form{loginForm(next)},
	})
}

// lockedAnswer has no form: no password is looked at as long as the user is locked.
func lockedAnswer(wait int) api.Reply {
	p := api.Page{Title: loginTitle, Lines: []string{"Too many wrong passwords. Try again later."}}
	return pageAnswer(429, p, api.Pair{Name: "Retry-After", Value: strconv.Itoa(wait)})
}

func (v *Server) logout(q visit) (api.Reply, error) {
	if err := v.front.Logout(q.now, q.sid()); err != nil {
		return api.Reply{}, err
	}
	return redirect(homePath, sidCookie("", 0)), nil
}

func (v *Server) authorize(q visit) (api.Reply, error) {
	verdict, err := v.front.Ask(q.now, q.sid(), q.params)
	back := pct.Form([]api.Pair{{Name: nextName, Value: q.target}})
	return verdictAnswer(verdict, loginPath+"?"+back), err
}

func (v *Server) consent(q visit) (api.Reply, error) {
	verdict, err := v.front.Answer(q.now, q.sid(), q.params)
	return verdictAnswer(verdict, loginPath), err
}

func (v *Server) withdraw(q visit) (api.Reply, error) {
	verdict, err := v.front.Withdraw(q.now, q.sid(), q.params)
	return verdictAnswer(verdict, loginPath), err
}

// verdictAnswer tells what the front desk has decided; login is where somebody goes who must log in first.
func verdictAnswer(verdict api.Verdict, login string) api.Reply {
	switch verdict.Kind {
	case api.VerPage:
		return errorPage(400, verdict.Error)
	case api.VerForged:
		return errorPage(403, "forged")
	case api.VerLogin:
		return redirect(login)
	case api.VerDone:
		return redirect(homePath)
	case api.VerRedirect:
		return redirect(verdict.To)
	case api.VerConsent:
		return pageAnswer(200, consentPage(verdict))
	}
	return api.Reply{} // the zero verdict, which stands beside an error
}
