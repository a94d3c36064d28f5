package page_test

import (
	"math/rand"
	"slices"
	"strings"
	"testing"

	"usher/api"
	"usher/page"
)

const hiPage = "<!DOCTYPE html>\n<html lang=\"en\">\n<head>\n<meta charset=\"utf-8\">\n<title>Hi</title>\n</head>\n<body>\n<h1>Hi</h1>\n</body>\n</html>\n"

// filled is the page of Hi with more in its body.
func filled(body string) string {
	return strings.Replace(hiPage, "</body>", body+"</body>", 1)
}

func TestThePageOfTheExample(t *testing.T) {
	mustWrite(t, api.Page{Title: "Hi"}, hiPage)
	mustWrite(t, api.Page{Title: "Hi", Lines: []string{}, Forms: []api.Form{}}, hiPage)
	mustWrite(t, api.Page{}, strings.ReplaceAll(hiPage, "Hi", ""))
	mustWrite(t, api.Page{Title: "<Hi>"}, strings.ReplaceAll(hiPage, "Hi", "&lt;Hi&gt;"))
}

func TestLines(t *testing.T) {
	mustWrite(t, api.Page{Title: "Hi", Lines: []string{"one"}}, filled("<p>one</p>\n"))
	mustWrite(t, api.Page{Title: "Hi", Lines: []string{"two", "", "one & more", "two"}}, filled("<p>two</p>\n<p></p>\n<p>one &amp; more</p>\n<p>two</p>\n"))
	mustWrite(t, api.Page{Title: "Hi", Lines: []string{"a\nb\n", " c "}}, filled("<p>a\nb\n</p>\n<p> c </p>\n"))
}

func TestEachKindOfInput(t *testing.T) {
	for _, c := range []struct {
		in   api.Input
		want string
	}{
		{hidden("n", "v"), `<input type="hidden" name="n" value="v">`},
		{hidden("n", ""), `<input type="hidden" name="n" value="">`},
		{hidden(`"n"`, "<v>'"), `<input type="hidden" name="&quot;n&quot;" value="&lt;v&gt;&#39;">`},
		{line("L", "n", "v"), `<p><label>L <input type="text" name="n" value="v"></label></p>`},
		{line("", "n", ""), `<p><label> <input type="text" name="n" value=""></label></p>`},
		{line(" L ", "&", `"`), `<p><label> L  <input type="text" name="&amp;" value="&quot;"></label></p>`},
		{secret("L", "n"), `<p><label>L <input type="password" name="n"></label></p>`},
		{secret("", "n"), `<p><label> <input type="password" name="n"></label></p>`},
		{secret("<L", "'"), `<p><label>&lt;L <input type="password" name="&#39;"></label></p>`},
		{box("n", "v", "L"), `<p><label><input type="checkbox" name="n" value="v" checked> L</label></p>`},
		{box("n", "", ""), `<p><label><input type="checkbox" name="n" value="" checked> </label></p>`},
		{box("<", ">", " L "), `<p><label><input type="checkbox" name="&lt;" value="&gt;" checked>  L </label></p>`},
	} {
		html := filled("<form method=\"post\" action=\"/a\">\n" + c.want + "\n<p><button type=\"submit\">Go</button></p>\n</form>\n")
		p := api.Page{Title: "Hi", Forms: []api.Form{formOf(c.in)}}
		mustWrite(t, p, html)
		mustRead(t, html, p)
	}
}

func TestFormsInTheirOrder(t *testing.T) {
	const none = "<form method=\"post\" action=\"\">\n<p><button type=\"submit\"></button></p>\n</form>\n"
	mustWrite(t, api.Page{Title: "Hi", Forms: []api.Form{{}}}, filled(none))
	mustWrite(t, api.Page{Title: "Hi", Lines: []string{"x"}, Forms: []api.Form{{}, {Action: "/b?x=1&y=2", Button: "'Go'", Inputs: []api.Input{hidden("b", "1"), hidden("a", "2"), hidden("b", "3")}}, {}}},
		filled("<p>x</p>\n"+none+
			"<form method=\"post\" action=\"/b?x=1&amp;y=2\">\n"+
			"<input type=\"hidden\" name=\"b\" value=\"1\">\n<input type=\"hidden\" name=\"a\" value=\"2\">\n<input type=\"hidden\" name=\"b\" value=\"3\">\n"+
			"<p><button type=\"submit\">&#39;Go&#39;</button></p>\n</form>\n"+none))
}

func TestPagesOfAllKindsOfTexts(t *testing.T) {
	random := rand.New(rand.NewSource(2))
	for range 3000 {
		p := somePage(random)
		mustWrite(t, p, expectedText(p))
	}
	mustWrite(t, loginPage(), expectedText(loginPage()))
}

// wrongInputs are such as may not be.
var wrongInputs = []api.Input{
	{}, {Name: "p"}, {Kind: 5, Name: "p"}, {Kind: 6, Name: "p"}, {Kind: -1, Name: "p"}, {Kind: 1 << 62, Name: "p"}, {Kind: -1 << 63, Name: "p"},
	{Kind: 257, Name: "p"}, {Kind: 1<<32 + 1, Name: "p"},
	{Kind: api.InHidden}, {Kind: api.InText}, {Kind: api.InSecret}, {Kind: api.InBox},
	{Kind: api.InHidden, Value: "v"}, {Kind: api.InText, Value: "v", Label: "L"}, {Kind: api.InSecret, Label: "L"}, {Kind: api.InBox, Value: "v", Label: "L"},
	{Kind: api.InHidden, Name: "p", Label: "x"}, {Kind: api.InHidden, Name: "p", Value: "v", Label: " "},
	{Kind: api.InSecret, Name: "p", Value: "x"}, {Kind: api.InSecret, Name: "p", Value: " ", Label: "L"},
}

func TestInputsThatMayNotBe(t *testing.T) {
	for _, wrong := range wrongInputs {
		mustNotWrite(t, api.Page{Forms: []api.Form{{Inputs: []api.Input{wrong}}}})
		good := loginPage()
		for form := range good.Forms {
			for place := range len(good.Forms[form].Inputs) + 1 {
				p := copyOf(good)
				p.Forms[form].Inputs = slices.Insert(p.Forms[form].Inputs, place, wrong)
				mustNotWrite(t, p)
			}
		}
		for place := range len(good.Forms) + 1 {
			p := copyOf(good)
			p.Forms = slices.Insert(p.Forms, place, formOf(wrong))
			mustNotWrite(t, p)
		}
	}
}

func TestAPasswordIsNeverWritten(t *testing.T) {
	const password = "correct horse"
	p := api.Page{Forms: []api.Form{formOf(api.Input{Kind: api.InSecret, Name: "pass", Value: password})}}
	if got, _ := page.Page(p); strings.Contains(got, password) {
		t.Errorf("P5.3: a password stands in %q", got)
	}
}
