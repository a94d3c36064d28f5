package page_test

import (
	"math/rand"
	"strings"
	"testing"

	"usher/api"
	"usher/page"
)

// tags is the tags of a page's text, without what stands between two quotes.
func tags(html string) string {
	left := ""
	for {
		_, tag, found := strings.Cut(html, "<")
		if !found {
			return left
		}
		tag, html, _ = strings.Cut(tag, ">")
		for i, part := range strings.Split(tag, `"`) {
			if i%2 == 0 {
				left += part + `"`
			}
		}
		left += "\n"
	}
}

// plainCopy is a page of the same shape with plain texts.
func plainCopy(p api.Page) api.Page {
	p = copyOf(p)
	p.Title = "t"
	for i := range p.Lines {
		p.Lines[i] = "l"
	}
	for i := range p.Forms {
		f := &p.Forms[i]
		f.Action, f.Button = "a", "b"
		for j, in := range f.Inputs {
			f.Inputs[j] = []api.Input{{}, hidden("n", "v"), line("L", "n", "v"), secret("L", "n"), box("n", "v", "L")}[in.Kind]
		}
	}
	return p
}

func TestTextsStayTexts(t *testing.T) {
	random := rand.New(rand.NewSource(4))
	for range 3000 {
		p := somePage(random)
		html, _ := page.Page(p)
		plain, _ := page.Page(plainCopy(p))
		if plain == "" || tags(html) != tags(plain) {
			t.Fatalf("P5.5: the tags of %q are %q, those of plain texts %q", html, tags(html), tags(plain))
		}
	}
}

func TestTheShapeIsSeenInTheTags(t *testing.T) {
	form := []api.Form{formOf()}
	seen := map[string]int{}
	shapes := []api.Page{
		{}, {Lines: []string{""}}, {Lines: []string{"", ""}}, {Forms: form}, {Forms: append(form, form...)},
		{Forms: []api.Form{formOf(hidden("n", ""))}}, {Forms: []api.Form{formOf(line("", "n", ""), line("", "n", ""))}}, {Forms: []api.Form{formOf(box("n", "", ""))}},
	}
	for _, p := range shapes {
		html, _ := page.Page(p)
		seen[tags(html)]++
	}
	if len(seen) != len(shapes) {
		t.Errorf("P5.5: the tags of %d shapes are %d", len(shapes), len(seen))
	}
}
