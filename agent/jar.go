package agent

import (
	"cmp"
	"slices"
	"strings"

	"usher/api"
	"usher/field"
)

// cookie is a cookie's value, how long it lasts and since when.
type cookie struct {
	value   string
	age, at int
}

func (c cookie) lasts(now int) bool { return c.age < 0 || now-c.at < c.age }

// jar is the cookies by their names.
type jar map[string]cookie

// drop throws away what does not last at that time.
func (j jar) drop(now int) {
	for name, c := range j {
		if !c.lasts(now) {
			delete(j, name)
		}
	}
}

// take takes what an answer's fields say. All that the jar holds lasts at that time.
func (j jar) take(now int, fields []api.Pair) {
	for i := range fields {
		// A field of another name counts as one without a value, which sets no cookie.
		value, _ := field.Lookup(fields[i:i+1], "Set-Cookie")
		if c, err := field.ReadSetCookie(value); err == nil {
			j.put(now, c)
		}
	}
}

func (j jar) put(now int, c api.Cookie) {
	_, known := j[c.Name]
	switch {
	case c.MaxAge == 0:
		delete(j, c.Name)
	case known || len(j) < api.MaxCookies:
		j[strings.Clone(c.Name)] = cookie{value: strings.Clone(c.Value), age: c.MaxAge, at: now}
	}
}

// list is the cookies at that time, rising by name.
func (j jar) list(now int) []api.Pair {
	var list []api.Pair
	for name, c := range j {
		if c.lasts(now) {
			list = append(list, api.Pair{Name: name, Value: c.value})
		}
	}
	slices.SortFunc(list, func(a, b api.Pair) int { return cmp.Compare(a.Name, b.Name) })
	return list
}
