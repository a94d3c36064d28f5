package audit

import (
	"strconv"
	"strings"

	"usher/api"
)

// blank stands between each two words of a line.
const blank = " "

// lineOf is the line of a record that may be.
func lineOf(r api.Record) string {
	var to writer
	walk(&r, &to)
	return strings.Join(to.words, blank)
}

// writer gathers the words of a line.
type writer struct {
	words []string
}

func (w *writer) kind(place *int) { w.words = append(w.words, layouts[*place].word) }

func (w *writer) text(place *string) { w.words = append(w.words, *place) }

func (w *writer) number(place *int) { w.words = append(w.words, strconv.Itoa(*place)) }

func (w *writer) list(place *[]string) { w.words = append(w.words, *place...) }

// reader takes the words of a line, whatever they are: a missing one is empty, and what is no number is some number. That the line is none shows when it is written again.
type reader struct {
	rest string
}

func (r *reader) word() string {
	word, rest, _ := strings.Cut(r.rest, blank)
	r.rest = rest
	return word
}

func (r *reader) kind(place *int) { *place = kindOf(r.word()) }

func (r *reader) text(place *string) { *place = r.word() }

func (r *reader) number(place *int) { *place, _ = strconv.Atoi(r.word()) }

// list takes all that is left, but no more words than show that they are too many.
func (r *reader) list(place *[]string) { *place = strings.SplitN(r.rest, blank, api.MaxScopes+1) }
