package page

import (
	"strings"

	"usher/api"
)

// writer is a builder that also knows how the texts and the inputs of a page are written.
type writer struct {
	strings.Builder
	kinds []inputKind
}

// inputKind is what the inputs of one kind have of their own.
type inputKind struct {
	mayBe func(in api.Input) bool
	write func(w *writer, in api.Input)
}

// inputKinds is the table of kinds, each one at its own number; at 0 there is none.
func inputKinds() []inputKind {
	anything := func(in api.Input) bool { return true }
	return []inputKind{
		api.InHidden: {
			mayBe: func(in api.Input) bool { return in.Label == "" },
			write: func(w *writer, in api.Input) {
				w.parts(hiddenName, in.Name, inputValue, in.Value, hiddenEnd)
			},
		},
		api.InText: {
			mayBe: anything,
			write: func(w *writer, in api.Input) {
				w.parts(labelHead, in.Label, textName, in.Name, inputValue, in.Value, inputEnd+labelEnd)
			},
		},
		api.InSecret: {
			// A password is never written into a page.
			mayBe: func(in api.Input) bool { return in.Value == "" },
			write: func(w *writer, in api.Input) {
				w.parts(labelHead, in.Label, secretName, in.Name, inputEnd+labelEnd)
			},
		},
		api.InBox: {
			mayBe: anything,
			write: func(w *writer, in api.Input) {
				w.parts(labelHead+boxName, in.Name, inputValue, in.Value, boxLabel, in.Label, labelEnd)
			},
		},
	}
}

// mayBe is whether a page may hold an input.
func (w *writer) mayBe(in api.Input) bool {
	if in.Kind <= 0 || in.Kind >= len(w.kinds) {
		return false
	}
	return in.Name != "" && w.kinds[in.Kind].mayBe(in)
}

func (w *writer) page(p api.Page) {
	w.parts(pageHead, p.Title, pageTitle, p.Title, pageBody)
	for _, line := range p.Lines {
		w.parts(lineHead, line, lineEnd)
	}
	for _, form := range p.Forms {
		w.form(form)
	}
	w.WriteString(pageEnd)
}

func (w *writer) form(f api.Form) {
	w.parts(formHead, f.Action, formInputs)
	for _, input := range f.Inputs {
		w.kinds[input.Kind].write(w, input)
	}
	w.parts(formButton, f.Button, formEnd)
}

// parts writes markup and text in turn, beginning with markup: no text comes into a page but through here.
func (w *writer) parts(list ...string) {
	for i, part := range list {
		if i%2 == 0 {
			w.WriteString(part)
		} else {
			w.text(part)
		}
	}
}

// text writes a text so that none of it is markup.
func (w *writer) text(s string) {
	for i := range len(s) {
		if escape := escapeOf(s[i]); escape != "" {
			w.WriteString(escape)
		} else {
			w.WriteByte(s[i])
		}
	}
}
