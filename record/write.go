package record

// moreGroups marks a group of a number behind which another one stands; it is one above the greatest group.
const moreGroups = 128

// writer writes the fields of a record that may be: so its kind has one byte and no number is below 0.
type writer struct {
	out []byte
}

func (w *writer) kind(place *int) {
	w.out = append(w.out, byte(*place))
}

func (w *writer) text(place *string) {
	w.out = append(appendNumber(w.out, len(*place)), *place...)
}

func (w *writer) list(place *[]string) {
	w.out = appendNumber(w.out, len(*place))
	for _, text := range *place {
		w.text(&text)
	}
}

func (w *writer) number(place *int) {
	w.out = appendNumber(w.out, *place)
}

func appendNumber(out []byte, n int) []byte {
	for n >= moreGroups {
		out = append(out, moreGroups|byte(n%moreGroups))
		n /= moreGroups
	}
	return append(out, byte(n))
}
