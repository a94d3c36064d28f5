package reply

import (
	"strings"

	"usher/api"
	"usher/field"
)

// Where an answer ends hangs on these names: so they are written here alone, never by whoever makes the answer.
var ownNames = [...]string{"Content-Length", "Connection", "Transfer-Encoding"}

func allFit(fields []api.Pair) bool {
	for _, f := range fields {
		if !fits(f) {
			return false
		}
	}
	return true
}

func fits(f api.Pair) bool {
	return field.Token(f.Name) && field.Value(f.Value) && !isOwn(f.Name)
}

// isOwn asks about a token: it has no letter with a case beside A to Z.
func isOwn(name string) bool {
	for _, own := range ownNames {
		if strings.EqualFold(name, own) {
			return true
		}
	}
	return false
}
