package agent

import (
	"slices"
	"strings"

	"usher/api"
	"usher/field"
	"usher/page"
)

// pageOf is the page that an answer holds; false: none.
func pageOf(r api.Reply) (api.Page, bool) {
	value, count := field.Lookup(r.Fields, "Content-Type")
	// What is no media type is answered with the empty text, which is another one.
	media, _ := field.Media(value)
	if count != 1 || media != "text/html" {
		return api.Page{}, false
	}
	// The page's texts may be pieces of the body, and that a piece of more.
	p, err := page.Read(strings.Clone(r.Body))
	return p, err == nil
}

// copyOf is the same page in new memory.
func copyOf(p api.Page) api.Page {
	p.Lines = slices.Clone(p.Lines)
	p.Forms = slices.Clone(p.Forms)
	for i, f := range p.Forms {
		p.Forms[i].Inputs = slices.Clone(f.Inputs)
	}
	return p
}
