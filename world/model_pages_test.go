package world_test

import (
	"fmt"
	"strings"

	"usher/api"
)

// phrases: chapter 8.
var phrases = map[int]string{
	200: "OK", 302: "Found", 303: "See Other", 400: "Bad Request", 401: "Unauthorized", 403: "Forbidden", 404: "Not Found", 405: "Method Not Allowed", 413: "Content Too Large", 415: "Unsupported Media Type", 417: "Expectation Failed",
	429: "Too Many Requests", 431: "Request Header Fields Too Large", 500: "Internal Server Error", 501: "Not Implemented", 503: "Service Unavailable", 505: "HTTP Version Not Supported",
}

// modelReply is an answer; its fields are whole lines.
type modelReply struct {
	status int
	fields []string
	body   string
	close  bool
}

func (r modelReply) text(isBare bool) string {
	lines := append([]string{fmt.Sprintf("HTTP/1.1 %d %s", r.status, phrases[r.status])}, r.fields...)
	connection := "keep-alive"
	if r.close {
		connection = "close"
	}
	lines = append(lines, fmt.Sprintf("Content-Length: %d", len(r.body)), "Connection: "+connection, "", "")
	text := strings.Join(lines, "\r\n")
	if isBare {
		return text
	}
	return text + r.body
}

var escapes = strings.NewReplacer("&", "&amp;", "<", "&lt;", ">", "&gt;", `"`, "&quot;", "'", "&#39;")

// pageOf: P19.3 and P5.3; forms stand as they are written.
func pageOf(status int, title string, lines []string, forms []string, more ...string) modelReply {
	var b strings.Builder
	t := escapes.Replace(title)
	fmt.Fprintf(&b, "<!DOCTYPE html>\n<html lang=\"en\">\n<head>\n<meta charset=\"utf-8\">\n<title>%s</title>\n</head>\n<body>\n<h1>%s</h1>\n", t, t)
	for _, line := range lines {
		fmt.Fprintf(&b, "<p>%s</p>\n", escapes.Replace(line))
	}
	b.WriteString(strings.Join(forms, ""))
	b.WriteString("</body>\n</html>\n")
	fields := []string{"Content-Type: text/html; charset=utf-8", "Cache-Control: no-store", "X-Frame-Options: DENY", "Referrer-Policy: no-referrer"}
	return modelReply{status: status, fields: append(fields, more...), body: b.String()}
}

func errorPageOf(status int, line string, more ...string) modelReply {
	return pageOf(status, "Error", []string{line}, nil, more...)
}

func formOf(action, button string, inputs ...string) string {
	return fmt.Sprintf("<form method=\"post\" action=\"%s\">\n%s<p><button type=\"submit\">%s</button></p>\n</form>\n", escapes.Replace(action), strings.Join(inputs, ""), escapes.Replace(button))
}

func hiddenOf(name, value string) string {
	return fmt.Sprintf("<input type=\"hidden\" name=\"%s\" value=\"%s\">\n", escapes.Replace(name), escapes.Replace(value))
}

func boxOf(scope string) string {
	s := escapes.Replace(scope)
	return fmt.Sprintf("<p><label><input type=\"checkbox\" name=\"grant:%s\" value=\"yes\" checked> %s</label></p>\n", s, s)
}

func loginFormOf(next string) string {
	return formOf("/login", "Log in", hiddenOf("next", next),
		"<p><label>Name <input type=\"text\" name=\"user\" value=\"\"></label></p>\n",
		"<p><label>Password <input type=\"password\" name=\"pass\"></label></p>\n")
}

// homeOf is home; user is empty where no session lives.
func homeOf(sid, user string, given []api.Consent) modelReply {
	if user == "" {
		return pageOf(200, "Usher", []string{"You are not logged in."}, []string{loginFormOf("/")})
	}
	lines := []string{"You are logged in as " + user + "."}
	var forms []string
	for _, c := range given {
		lines = append(lines, c.Client+" may use: "+strings.Join(c.Scopes, " ")+".")
		forms = append(forms, formOf("/withdraw", "Withdraw", hiddenOf("client_id", c.Client), hiddenOf("ticket", ticketOf(sid, pairs("client_id", c.Client)))))
	}
	return pageOf(200, "Usher", lines, append(forms, formOf("/logout", "Log out")))
}

// questionPageOf is the consent page.
func questionPageOf(sid, client, user string, question []api.Pair, scopes []string) modelReply {
	var common []string
	for _, p := range question {
		common = append(common, hiddenOf(p.Name, p.Value))
	}
	common = append(common, hiddenOf("ticket", ticketOf(sid, question)))
	allow := append(append([]string{}, common...), hiddenOf("decision", "allow"))
	for _, s := range scopes {
		allow = append(allow, boxOf(s))
	}
	deny := append(append([]string{}, common...), hiddenOf("decision", "deny"))
	lines := []string{client + " asks for access in your name.", "You are logged in as " + user + "."}
	return pageOf(200, "Allow access", lines, []string{formOf("/consent", "Allow", allow...), formOf("/consent", "Deny", deny...)})
}

func redirectOf(to string, more ...string) modelReply {
	return modelReply{status: 303, fields: append([]string{"Location: " + to, "Cache-Control: no-store"}, more...)}
}

func cookieOf(sid string, age int) string {
	return fmt.Sprintf("Set-Cookie: sid=%s; Path=/; Max-Age=%d; Secure; HttpOnly; SameSite=Lax", sid, age)
}

// objectOf is an object of members that are written already.
func objectOf(status int, members ...string) modelReply {
	r := modelReply{status: status, fields: []string{"Cache-Control: no-store", "Pragma: no-cache"}}
	if len(members) > 0 {
		r.fields = append([]string{"Content-Type: application/json"}, r.fields...)
		r.body = "{" + strings.Join(members, ",") + "}"
	}
	return r
}

// textMember: what is kept is made of bytes from 0x21 to 0x7E and blanks, so that two of them alone are escaped.
func textMember(name, value string) string {
	return fmt.Sprintf(`"%s":"%s"`, name, strings.NewReplacer(`"`, `\"`, `\`, `\\`).Replace(value))
}

func numberMember(name string, value int) string { return fmt.Sprintf(`"%s":%d`, name, value) }

func errorObjectOf(status int, word string) modelReply {
	r := objectOf(status, textMember("error", word))
	if status == 401 {
		r.fields = append(r.fields, `WWW-Authenticate: Basic realm="usher"`)
	}
	return r
}
