package page_test

import (
	"fmt"
	"math/rand"
	"reflect"
	"regexp"
	"slices"
	"strings"
	"testing"

	"usher/api"
	"usher/page"
)

const fiveBytes = `&<>"'`

var fiveEscapes = []string{"&amp;", "&lt;", "&gt;", "&quot;", "&#39;"}

// The chapter's table in both directions, each in one pass.
var (
	written = strings.NewReplacer("&", "&amp;", "<", "&lt;", ">", "&gt;", `"`, "&quot;", "'", "&#39;")
	meant   = strings.NewReplacer("&amp;", "&", "&lt;", "<", "&gt;", ">", "&quot;", `"`, "&#39;", "'")
)

// The form of a page as expressions.
const (
	oneChar     = `(?:[^&<>"']|&amp;|&lt;|&gt;|&quot;|&#39;)`
	anyTextForm = `(` + oneChar + `*)`
	filledForm  = `(` + oneChar + `+)`
	headForm    = `<!DOCTYPE html>\n<html lang="en">\n<head>\n<meta charset="utf-8">\n<title>` + anyTextForm + `</title>\n</head>\n<body>\n<h1>` + anyTextForm + `</h1>\n`
	lineForm    = `<p>` + anyTextForm + `</p>\n`
	hiddenForm  = `<input type="hidden" name="` + filledForm + `" value="` + anyTextForm + `">\n`
	textForm    = `<p><label>` + anyTextForm + ` <input type="text" name="` + filledForm + `" value="` + anyTextForm + `"></label></p>\n`
	secretForm  = `<p><label>` + anyTextForm + ` <input type="password" name="` + filledForm + `"></label></p>\n`
	boxForm     = `<p><label><input type="checkbox" name="` + filledForm + `" value="` + anyTextForm + `" checked> ` + anyTextForm + `</label></p>\n`
	inputForm   = `(?:` + hiddenForm + `|` + textForm + `|` + secretForm + `|` + boxForm + `)`
	beginForm   = `<form method="post" action="` + anyTextForm + `">\n`
	buttonForm  = `<p><button type="submit">` + anyTextForm + `</button></p>\n</form>\n`
	endForm     = `</body>\n</html>\n`
)

var (
	wholeText  = regexp.MustCompile(`\A` + oneChar + `*\z`)
	wholePage  = regexp.MustCompile(`\A` + headForm + `(?:` + lineForm + `)*(?:` + beginForm + inputForm + `*` + buttonForm + `)*` + endForm + `\z`)
	aHead      = regexp.MustCompile(headForm)
	aLine      = regexp.MustCompile(lineForm)
	aFormBegin = regexp.MustCompile(beginForm)
	aButton    = regexp.MustCompile(buttonForm)
	anInput    = regexp.MustCompile(inputForm)
)

// expectedPage is what Read is to answer, found in another way: by expressions.
func expectedPage(html string) (api.Page, error) {
	if !wholePage.MatchString(html) {
		return api.Page{}, api.ErrText
	}
	titles := aHead.FindStringSubmatch(html)
	if titles[1] != titles[2] {
		return api.Page{}, api.ErrText
	}
	p := api.Page{Title: meant.Replace(titles[1])}
	parts := strings.SplitAfter(html[len(titles[0]):], "</form>\n")
	lines, _, _ := strings.Cut(parts[0], "<form")
	for _, line := range aLine.FindAllStringSubmatch(lines, -1) {
		p.Lines = append(p.Lines, meant.Replace(line[1]))
	}
	for _, part := range parts[:len(parts)-1] {
		p.Forms = append(p.Forms, expectedForm(part))
	}
	return p, nil
}

func expectedForm(part string) api.Form {
	f := api.Form{
		Action: meant.Replace(aFormBegin.FindStringSubmatch(part)[1]),
		Button: meant.Replace(aButton.FindStringSubmatch(part)[1]),
	}
	part = part[aFormBegin.FindStringIndex(part)[1]:]
	for _, found := range anInput.FindAllStringSubmatch(part, -1) {
		for i := range found {
			found[i] = meant.Replace(found[i])
		}
		switch {
		case found[1] != "":
			f.Inputs = append(f.Inputs, hidden(found[1], found[2]))
		case found[4] != "":
			f.Inputs = append(f.Inputs, line(found[3], found[4], found[5]))
		case found[7] != "":
			f.Inputs = append(f.Inputs, secret(found[6], found[7]))
		default:
			f.Inputs = append(f.Inputs, box(found[8], found[9], found[10]))
		}
	}
	return f
}

// expectedText is what Page is to answer for a page whose inputs may all be.
func expectedText(p api.Page) string {
	text := written.Replace
	s := fmt.Sprintf("<!DOCTYPE html>\n<html lang=\"en\">\n<head>\n<meta charset=\"utf-8\">\n<title>%s</title>\n</head>\n<body>\n<h1>%s</h1>\n", text(p.Title), text(p.Title))
	for _, line := range p.Lines {
		s += fmt.Sprintf("<p>%s</p>\n", text(line))
	}
	for _, form := range p.Forms {
		s += fmt.Sprintf("<form method=\"post\" action=\"%s\">\n", text(form.Action))
		for _, in := range form.Inputs {
			name, value, label := text(in.Name), text(in.Value), text(in.Label)
			s += []string{"",
				"<input type=\"hidden\" name=\"" + name + "\" value=\"" + value + "\">\n",
				"<p><label>" + label + " <input type=\"text\" name=\"" + name + "\" value=\"" + value + "\"></label></p>\n",
				"<p><label>" + label + " <input type=\"password\" name=\"" + name + "\"></label></p>\n",
				"<p><label><input type=\"checkbox\" name=\"" + name + "\" value=\"" + value + "\" checked> " + label + "</label></p>\n",
			}[in.Kind]
		}
		s += fmt.Sprintf("<p><button type=\"submit\">%s</button></p>\n</form>\n", text(form.Button))
	}
	return s + "</body>\n</html>\n"
}

func hidden(name, value string) api.Input {
	return api.Input{Kind: api.InHidden, Name: name, Value: value}
}

func line(label, name, value string) api.Input {
	return api.Input{Kind: api.InText, Name: name, Value: value, Label: label}
}

func secret(label, name string) api.Input {
	return api.Input{Kind: api.InSecret, Name: name, Label: label}
}

func box(name, value, label string) api.Input {
	return api.Input{Kind: api.InBox, Name: name, Value: value, Label: label}
}

func formOf(inputs ...api.Input) api.Form {
	return api.Form{Action: "/a", Inputs: inputs, Button: "Go"}
}

func pairs(list ...string) []api.Pair {
	var l []api.Pair
	for i := 0; i < len(list); i += 2 {
		l = append(l, api.Pair{Name: list[i], Value: list[i+1]})
	}
	return l
}

// trickyTexts are such as would break a page, if any of them became markup, and those at the edges of the rules.
var trickyTexts = []string{
	"", " ", "  ", " a", "a ", "a b", "\n", "a\nb\n", "\r\n", "&", "<", ">", `"`, "'", "&amp;", "&lt;b&gt;", "&#39", "a&b;",
	"<b>", "</p>\n<p>", "</title>", "</h1>\n", "</form>\n", "</body>\n</html>\n", "<form method=\"post\" action=\"/x\">\n",
	"<input type=\"hidden\" name=\"n\" value=\"v\">\n", "\"><script>alert(1)</script>", "' onclick='x", "\" checked> ", " <input type=\"text\" name=\"",
	"<!-- ", "-->", "<!DOCTYPE html>\n", "\x00", "\x7f\x80\xff", "\u00e9\u20ac\U0001f600", "=", "checked", "name",
}

func someText(random *rand.Rand) string {
	s := trickyTexts[random.Intn(len(trickyTexts))]
	if random.Intn(3) == 0 {
		s += trickyTexts[random.Intn(len(trickyTexts))]
	}
	return s
}

func someInput(random *rand.Rand) api.Input {
	name := someText(random)
	if name == "" {
		name = "n"
	}
	return []api.Input{
		hidden(name, someText(random)),
		line(someText(random), name, someText(random)),
		secret(someText(random), name),
		box(name, someText(random), someText(random)),
	}[random.Intn(4)]
}

// somePage is a page that may be, the same one for the same seed.
func somePage(random *rand.Rand) api.Page {
	p := api.Page{Title: someText(random)}
	for range random.Intn(4) {
		p.Lines = append(p.Lines, someText(random))
	}
	for range random.Intn(4) {
		form := api.Form{Action: someText(random), Button: someText(random)}
		for range random.Intn(5) {
			form.Inputs = append(form.Inputs, someInput(random))
		}
		p.Forms = append(p.Forms, form)
	}
	return p
}

// loginPage is an ordinary page with inputs of all four kinds.
func loginPage() api.Page {
	return api.Page{Title: "Log & in", Lines: []string{"one", "a < b"}, Forms: []api.Form{
		{Action: "/login?a=1&b=2", Button: "Go", Inputs: []api.Input{hidden("t", `"7"`), line("Name", "user", "ann"), secret("Password", "pass"), box("grant:a", "yes", "may a")}},
		{Action: "/x", Button: "No"},
	}}
}

func samePage(a, b api.Page) bool {
	return a.Title == b.Title && slices.Equal(a.Lines, b.Lines) && slices.EqualFunc(a.Forms, b.Forms, sameForm)
}

func sameForm(a, b api.Form) bool {
	return a.Action == b.Action && a.Button == b.Button && slices.Equal(a.Inputs, b.Inputs)
}

// copyOf is a page that shares no list with another one.
func copyOf(p api.Page) api.Page {
	p.Lines = slices.Clone(p.Lines)
	p.Forms = slices.Clone(p.Forms)
	for i := range p.Forms {
		p.Forms[i].Inputs = slices.Clone(p.Forms[i].Inputs)
	}
	return p
}

func mustUnescape(t *testing.T, s, want string) {
	t.Helper()
	if got, err := page.Unescape(s); got != want || err != nil {
		t.Errorf("P5.2: Unescape(%q) = %q, %v, want %q", s, got, err, want)
	}
}

func mustNotUnescape(t *testing.T, s string) {
	t.Helper()
	if got, err := page.Unescape(s); got != "" || err != api.ErrText {
		t.Errorf("P5.2: Unescape(%q) = %q, %v, want nothing and ErrText", s, got, err)
	}
}

func mustWrite(t *testing.T, p api.Page, want string) {
	t.Helper()
	if got, err := page.Page(p); got != want || err != nil {
		t.Errorf("P5.3: Page(%#v) = %q, %v, want %q", p, got, err, want)
	}
}

func mustNotWrite(t *testing.T, p api.Page) {
	t.Helper()
	if got, err := page.Page(p); got != "" || err != api.ErrArg {
		t.Errorf("P5.3: Page(%#v) = %q, %v, want nothing and ErrArg", p, got, err)
	}
}

func mustRead(t *testing.T, html string, want api.Page) {
	t.Helper()
	if got, err := page.Read(html); !samePage(got, want) || err != nil {
		t.Errorf("P5.4: Read(%q) = %#v, %v, want %#v", html, got, err, want)
	}
}

func mustNotRead(t *testing.T, html string) {
	t.Helper()
	if got, err := page.Read(html); !reflect.DeepEqual(got, api.Page{}) || err != api.ErrText {
		t.Errorf("P5.4: Read(%q) = %#v, %v, want the zero page and ErrText", html, got, err)
	}
}

func mustReadAsExpected(t *testing.T, html string) {
	t.Helper()
	if want, err := expectedPage(html); err != nil {
		mustNotRead(t, html)
	} else {
		mustRead(t, html, want)
	}
}

func mustSend(t *testing.T, f api.Form, typed []api.Pair, want ...string) {
	t.Helper()
	if got := page.Sent(f, typed); !slices.Equal(got, pairs(want...)) {
		t.Errorf("P5.6: Sent(%#v, %#v) = %#v, want %#v", f, typed, got, pairs(want...))
	}
}
