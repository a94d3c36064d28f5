package page

import "usher/api"

// doings is what a user did in a form, looked through once, so that a long form with much typed into it does not take long.
type doings struct {
	typed  []api.Pair
	last   map[string]int   // the place in typed of the last pair with a name
	clicks map[api.Pair]int // how many times a pair stands in typed
}

func lookThrough(typed []api.Pair) doings {
	done := doings{typed: typed, last: map[string]int{}, clicks: map[api.Pair]int{}}
	for place, pair := range typed {
		done.last[pair.Name] = place
		done.clicks[pair]++
	}
	return done
}

// valueOf is the value with which an input is sent, if it is.
func (d doings) valueOf(in api.Input) (string, bool) {
	switch in.Kind {
	case api.InHidden:
		return in.Value, true
	case api.InText, api.InSecret:
		if place, ok := d.last[in.Name]; ok {
			return d.typed[place].Value, true
		}
		return in.Value, true
	case api.InBox:
		// The box is checked at first, and each click turns it.
		clicks := d.clicks[api.Pair{Name: in.Name, Value: in.Value}]
		return in.Value, clicks%2 == 0
	}
	return "", false
}
