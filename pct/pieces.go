package pct

import (
	"strings"

	"usher/api"
)

// piecesOf is the pieces of a form that are not empty. It stops one past the limit: how many more there are makes no difference.
func piecesOf(s string) []string {
	var pieces []string
	for piece := range strings.SplitSeq(s, "&") {
		if piece == "" {
			continue
		}
		pieces = append(pieces, piece)
		if len(pieces) > api.MaxPairs {
			break
		}
	}
	return pieces
}

func readPiece(piece string) (api.Pair, error) {
	name, value, _ := strings.Cut(piece, "=")
	readName, err := Unescape(name, true)
	if err != nil {
		return api.Pair{}, err
	}
	readValue, err := Unescape(value, true)
	if err != nil {
		return api.Pair{}, err
	}
	return api.Pair{Name: readName, Value: readValue}, nil
}
