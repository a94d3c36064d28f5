package page_test

import (
	"math/rand"
	"strings"
	"testing"

	"usher/api"
	"usher/page"
)

func TestWhatIsWrittenIsReadBack(t *testing.T) {
	random := rand.New(rand.NewSource(3))
	list := []api.Page{{}, {Title: "Hi"}, loginPage()}
	for range 3000 {
		list = append(list, somePage(random))
	}
	for _, p := range list {
		html, err := page.Page(p)
		if err != nil {
			t.Fatalf("P5.3: Page(%#v): %v", p, err)
		}
		mustRead(t, html, p)
	}
}

func TestEveryTextInEveryPlaceIsReadBack(t *testing.T) {
	for _, text := range trickyTexts {
		name := text + "n"
		mustRead(t, expectedText(api.Page{Title: text}), api.Page{Title: text})
		for _, p := range []api.Page{
			{Lines: []string{text}},
			{Lines: []string{text, text}},
			{Forms: []api.Form{{Action: text}}},
			{Forms: []api.Form{{Button: text}}},
			{Forms: []api.Form{formOf(hidden(name, text))}},
			{Forms: []api.Form{formOf(line(text, name, text))}},
			{Forms: []api.Form{formOf(line("", "n", text))}},
			{Forms: []api.Form{formOf(line(text, "n", ""))}},
			{Forms: []api.Form{formOf(secret(text, name))}},
			{Forms: []api.Form{formOf(box(name, text, text))}},
			{Forms: []api.Form{formOf(box("n", "", text))}},
			{Forms: []api.Form{formOf(box("n", text, ""))}},
		} {
			mustRead(t, expectedText(p), p)
		}
	}
}

// spoilt are the texts that differ from a page's text by one byte: taken out, doubled, put in or changed.
func spoilt(html, chars string, try func(string)) {
	for i := range len(html) + 1 {
		try(html[:i])
		try(html[i:])
		for _, char := range []byte(chars) {
			try(html[:i] + string([]byte{char}) + html[i:])
		}
		if i == len(html) {
			continue
		}
		try(html[:i] + html[i+1:])
		try(html[:i] + html[i:i+1] + html[i:])
		for _, char := range []byte(chars) {
			try(html[:i] + string([]byte{char}) + html[i+1:])
		}
	}
}

func TestAPageWithOneByteOtherwise(t *testing.T) {
	for _, p := range []api.Page{
		{Lines: []string{""}},
		{Title: "a&", Lines: []string{"b"}, Forms: []api.Form{{Action: "/", Button: "G", Inputs: []api.Input{hidden("n", "v"), line("L", "n", "v"), secret("L", "n"), box("n", "v", "L")}}}},
		{Forms: []api.Form{{Inputs: []api.Input{hidden("n", ""), line("", "n", ""), secret("", "n"), box("n", "", "")}}}},
		{Forms: []api.Form{{}, {}}},
	} {
		spoilt(expectedText(p), "<>\"'& \n;a/", func(s string) { mustReadAsExpected(t, s) })
	}
}

func TestAPageWithAnyByteInAnyPlace(t *testing.T) {
	every := make([]byte, 256)
	for i := range every {
		every[i] = byte(i)
	}
	spoilt(hiPage, string(every), func(s string) { mustReadAsExpected(t, s) })
}

// pieces are the lines that may stand in the body of a page.
var pieces = []string{
	"<p>one</p>\n", "<form method=\"post\" action=\"/a\">\n", "<input type=\"hidden\" name=\"n\" value=\"v\">\n",
	"<p><label>L <input type=\"text\" name=\"n\" value=\"v\"></label></p>\n", "<p><label>L <input type=\"password\" name=\"n\"></label></p>\n",
	"<p><label><input type=\"checkbox\" name=\"n\" value=\"v\" checked> L</label></p>\n", "<p><button type=\"submit\">Go</button></p>\n", "</form>\n",
}

func TestLinesOfAPageInAnyOrder(t *testing.T) {
	read := 0
	var grow func(body string, more int)
	grow = func(body string, more int) {
		mustReadAsExpected(t, filled(body))
		if _, err := page.Read(filled(body)); err == nil {
			read++
		}
		for _, piece := range pieces {
			if more > 0 {
				grow(body+piece, more-1)
			}
		}
	}
	grow("", 5)
	// With n lines ahead of the one form, and k inputs in it, 4 to the k pages for each n + k up to 2; and up to 5 lines alone.
	if want := (1 + 4 + 16) + (1 + 4) + 1 + 6; read != want {
		t.Errorf("P5.4: of the lines in any order %d are a page, want %d", read, want)
	}
}

func TestPagesThatPageDoesNotWrite(t *testing.T) {
	form := func(inputs string) string {
		return filled("<form method=\"post\" action=\"/a\">\n" + inputs + "<p><button type=\"submit\">Go</button></p>\n</form>\n")
	}
	mustRead(t, form(""), api.Page{Title: "Hi", Forms: []api.Form{formOf()}})
	login := expectedText(loginPage())
	for _, html := range []string{
		"", "\n", "Hi", " " + hiPage, "\n" + hiPage, hiPage + " ", hiPage + "\n", hiPage + hiPage, "\ufeff" + hiPage, hiPage + "\x00",
		" " + login, login + "\n", login + login, login[1:], login[:len(login)-1],
		strings.Replace(hiPage, "Hi", "Ho", 1), strings.Replace(hiPage, "<h1>Hi", "<h1>Hi ", 1), strings.Replace(hiPage, "<h1>Hi", "<h1>", 1), strings.Replace(hiPage, "<title>Hi", "<title>", 1), strings.Replace(hiPage, "<h1>Hi", "<h1>&#72;i", 1),
		strings.ReplaceAll(hiPage, "\n", "\r\n"), strings.ReplaceAll(hiPage, "\n", ""), strings.ToLower(hiPage), strings.ReplaceAll(hiPage, "\"", "'"), strings.ReplaceAll(hiPage, "\"", ""),
		strings.ReplaceAll(hiPage, "Hi", "a&b"), strings.ReplaceAll(hiPage, "Hi", "&amp"), strings.ReplaceAll(hiPage, "Hi", ">"), strings.ReplaceAll(hiPage, "Hi", "'"), strings.ReplaceAll(hiPage, "Hi", "\""), strings.ReplaceAll(hiPage, "Hi", "&#039;"),
		strings.Replace(login, " checked", "", 1), strings.Replace(login, " checked", " checked=\"\"", 1), strings.Replace(login, "post", "get", 1), strings.Replace(login, "</p>\n", "</p>", 1),
		filled("<p>one</p>"), filled("<p>one</p>\n\n"), filled("<p>a<b>b</b></p>\n"), filled("<P>one</P>\n"), filled("one\n"), filled("<h1>Hi</h1>\n"),
		form(`<input type="hidden" name="" value="v">` + "\n"), form(`<input type="hidden" name="n">` + "\n"), form(`<input type="hidden" value="v" name="n">` + "\n"), form(`<input type="hidden" name="n" value="v"/>` + "\n"),
		form(`<p><label>L<input type="text" name="n" value="v"></label></p>` + "\n"), form(`<p><label><input type="text" name="n" value="v"></label></p>` + "\n"), form(`<p><label>L <input type="text" name="" value="v"></label></p>` + "\n"), form(`<p><label>L <input type="text" name="n"></label></p>` + "\n"), form(`<p><label>L <input type="email" name="n" value="v"></label></p>` + "\n"),
		form(`<p><label>L <input type="password" name=""></label></p>` + "\n"), form(`<p><label>L <input type="password" name="n" value=""></label></p>` + "\n"), form(`<p><label>L <input type="password" name="n" value="v"></label></p>` + "\n"), form(`<p><label>L<input type="password" name="n"></label></p>` + "\n"),
		form(`<p><label><input type="checkbox" name="n" value="v" checked>L</label></p>` + "\n"), form(`<p><label><input type="checkbox" name="" value="v" checked> L</label></p>` + "\n"), form(`<p><label> <input type="checkbox" name="n" value="v" checked> L</label></p>` + "\n"), form(`<p><label><input type="checkbox" name="n" value="v"> L</label></p>` + "\n"),
		form("<p>one</p>\n"), strings.Replace(form(""), "<p><button type=\"submit\">Go</button></p>\n", "", 1), strings.Replace(form(""), "</form>\n", "", 1), filled("<p><button type=\"submit\">Go</button></p>\n</form>\n"),
		strings.Replace(form(""), "</form>\n", "</form>\n<p>behind</p>\n", 1), filled("</form>\n"), filled(`<input type="hidden" name="n" value="v">` + "\n"),
	} {
		mustNotRead(t, html)
		if _, err := expectedPage(html); err == nil {
			t.Errorf("the expressions take %q", html)
		}
	}
}

func TestALongPageIsReadAtOnce(t *testing.T) {
	var p api.Page
	for range 20000 {
		p.Lines = append(p.Lines, "a & b")
	}
	form := formOf()
	for range 20000 {
		form.Inputs = append(form.Inputs, hidden("n", "<v>"), line("L", "n", "v"), secret("L", "n"), box("n", "v", "L"))
	}
	p.Forms = []api.Form{form, form}
	html, err := page.Page(p)
	if err != nil {
		t.Fatalf("P5.3: a long page: %v", err)
	}
	if got, err := page.Read(html); !samePage(got, p) || err != nil {
		t.Errorf("P5.4: a long page is read otherwise than it was written: %v", err)
	}
	if _, err := page.Read(html[:len(html)-1]); err != api.ErrText {
		t.Errorf("P5.4: a long page cut at its end: %v", err)
	}
	if _, err := page.Unescape(strings.Repeat("&amp;", 1<<20) + "&"); err != api.ErrText {
		t.Errorf("P5.2: a long text cut at its end: %v", err)
	}
}
