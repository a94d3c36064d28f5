package page

import (
	"strings"

	"usher/api"
)

// reader walks the text of a page. Where that is not as it must be, its methods panic with the refusal.
type reader struct {
	rest string
}

func (r *reader) page() api.Page {
	var p api.Page
	r.must(pageHead)
	p.Title = r.text('<')
	r.must(pageTitle)
	if r.text('<') != p.Title {
		panic(api.ErrText)
	}
	r.must(pageBody)
	for r.skip(lineHead) {
		p.Lines = append(p.Lines, r.text('<'))
		r.must(lineEnd)
	}
	for r.skip(formHead) {
		p.Forms = append(p.Forms, r.form())
	}
	r.must(pageEnd)
	if r.rest != "" {
		panic(api.ErrText)
	}
	return p
}

// form reads a form from its action on.
func (r *reader) form() api.Form {
	var f api.Form
	f.Action = r.text('"')
	r.must(formInputs)
	for !r.skip(formButton) {
		f.Inputs = append(f.Inputs, r.input())
	}
	f.Button = r.text('<')
	r.must(formEnd)
	return f
}

func (r *reader) input() api.Input {
	if r.skip(hiddenName) {
		in := r.nameAndValue(api.InHidden)
		r.must(hiddenEnd)
		return in
	}
	r.must(labelHead)
	if r.skip(boxName) {
		in := r.nameAndValue(api.InBox)
		r.must(boxLabel)
		in.Label = r.text('<')
		r.must(labelEnd)
		return in
	}
	return r.typed()
}

// typed reads an input that is typed, from its label on.
func (r *reader) typed() api.Input {
	var in api.Input
	label := r.labelAhead()
	if r.skip(textName) {
		in = r.nameAndValue(api.InText)
	} else {
		r.must(secretName)
		in = api.Input{Kind: api.InSecret, Name: r.name()}
	}
	in.Label = label
	r.must(inputEnd + labelEnd)
	return in
}

// labelAhead reads a label that stands ahead of its input, and leaves the blank between the two.
func (r *reader) labelAhead() string {
	end := strings.IndexByte(r.rest, '<')
	if end < 1 {
		panic(api.ErrText)
	}
	return r.take(end - 1)
}

func (r *reader) nameAndValue(kind int) api.Input {
	name := r.name()
	r.must(inputValue)
	return api.Input{Kind: kind, Name: name, Value: r.text('"')}
}

// name reads the name of an input, which is never empty.
func (r *reader) name() string {
	name := r.text('"')
	if name == "" {
		panic(api.ErrText)
	}
	return name
}

// text reads the escaped text that goes up to a byte of markup.
func (r *reader) text(end byte) string {
	size := strings.IndexByte(r.rest, end)
	if size < 0 {
		panic(api.ErrText)
	}
	return r.take(size)
}

// take reads so many bytes of escaped text.
func (r *reader) take(size int) string {
	text, err := Unescape(r.rest[:size])
	if err != nil {
		panic(err)
	}
	r.rest = r.rest[size:]
	return text
}

// skip goes on behind markup, if that is what comes next.
func (r *reader) skip(markup string) bool {
	rest, found := strings.CutPrefix(r.rest, markup)
	r.rest = rest
	return found
}

func (r *reader) must(markup string) {
	if !r.skip(markup) {
		panic(api.ErrText)
	}
}
