package server

import (
	"usher/api"
	"usher/grant"
	"usher/terms"
)

// The paths to which a page or a redirect leads.
const (
	homePath     = "/"
	loginPath    = "/login"
	logoutPath   = "/logout"
	consentPath  = "/consent"
	withdrawPath = "/withdraw"
)

// The names of the inputs, and of the parameters that come back by them.
const (
	nextName     = "next"
	userName     = "user"
	passName     = "pass"
	clientName   = "client_id"
	ticketName   = "ticket"
	decisionName = "decision"
	grantName    = "grant:" // a scope stands behind it
)

// The titles of the pages.
const (
	homeTitle    = "Usher"
	loginTitle   = "Log in"
	consentTitle = "Allow access"
)

func hidden(name, value string) api.Input {
	return api.Input{Kind: api.InHidden, Name: name, Value: value}
}

// loginForm leads to next, once the user is logged in.
func loginForm(next string) api.Form {
	return api.Form{
		Action: loginPath,
		Inputs: []api.Input{
			hidden(nextName, next),
			{Kind: api.InText, Name: userName, Label: "Name"},
			{Kind: api.InSecret, Name: passName, Label: "Password"},
		},
		Button: "Log in",
	}
}

// strangerPage is home for somebody who is not logged in.
func strangerPage() api.Page {
	return api.Page{
		Title: homeTitle,
		Lines: []string{"You are not logged in."},
		Forms: []api.Form{loginForm(homePath)},
	}
}

// userPage is home for a user, with what they have allowed.
func userPage(user, sid string, given []api.Consent) api.Page {
	p := api.Page{Title: homeTitle, Lines: []string{loggedIn(user)}}
	for _, consent := range given {
		p.Lines = append(p.Lines, consent.Client+" may use: "+terms.ScopeText(consent.Scopes)+".")
		p.Forms = append(p.Forms, withdrawForm(sid, consent.Client))
	}
	p.Forms = append(p.Forms, api.Form{Action: logoutPath, Button: "Log out"})
	return p
}

func loggedIn(user string) string { return "You are logged in as " + user + "." }

func withdrawForm(sid, client string) api.Form {
	ticket := grant.Ticket(sid, []api.Pair{{Name: clientName, Value: client}})
	return api.Form{
		Action: withdrawPath,
		Inputs: []api.Input{hidden(clientName, client), hidden(ticketName, ticket)},
		Button: "Withdraw",
	}
}

// consentPage asks the user: what is sent back with either button says what was asked.
func consentPage(asked api.Verdict) api.Page {
	allowed := decisionForm(asked, "allow", "Allow")
	for _, scope := range asked.Scopes {
		allowed.Inputs = append(allowed.Inputs, api.Input{Kind: api.InBox, Name: grantName + scope, Value: "yes", Label: scope})
	}
	return api.Page{
		Title: consentTitle,
		Lines: []string{asked.Client + " asks for access in your name.", loggedIn(asked.User)},
		Forms: []api.Form{allowed, decisionForm(asked, "deny", "Deny")},
	}
}

func decisionForm(asked api.Verdict, decision, button string) api.Form {
	f := api.Form{Action: consentPath, Button: button}
	for _, p := range asked.Params {
		f.Inputs = append(f.Inputs, hidden(p.Name, p.Value))
	}
	f.Inputs = append(f.Inputs, hidden(ticketName, asked.Ticket), hidden(decisionName, decision))
	return f
}
