package audit

import (
	"strconv"
	"strings"

	"usher/api"
)

// heading begins the line that stands ahead of a transaction's lines; the number of its records ends it.
const heading = "transaction "

// appendBlock writes a transaction behind the lines of others.
func appendBlock(lines []string, tx []api.Record) []string {
	lines = append(lines, heading+strconv.Itoa(len(tx)))
	for _, r := range tx {
		lines = append(lines, lineOf(r))
	}
	return lines
}

// readBlock reads the transaction that stands at the head of some lines.
func readBlock(lines []string) ([]api.Record, error) {
	count := announced(lines[0])
	if count == 0 || count >= len(lines) {
		return nil, api.ErrText
	}
	tx := make([]api.Record, count)
	for i := range tx {
		r, err := ReadLine(lines[1+i])
		if err != nil {
			return nil, err
		}
		tx[i] = r
	}
	return tx, nil
}

// announced is of how many records a line says that they follow: 0, if it says no such thing.
func announced(line string) int {
	number, ok := strings.CutPrefix(line, heading)
	if !ok || len(number) != 1 {
		return 0
	}
	count := int(number[0]) - '0'
	if count < 1 || count > api.MaxRecords {
		return 0
	}
	return count
}
