package terms

import (
	"strconv"
	"strings"
)

const (
	maxLabel   = 63
	escapeSize = 3
)

// localHosts lead to the user's own machine; none of them begins another.
var localHosts = [...]string{"localhost", "127.0.0.1", "[::1]"}

// A form of an address: how it begins, and whether a text may stand behind that.
type form struct {
	head   string
	isRest func(string) bool
}

// forms are in the order in which they are held against an address. The head of the last one fits always: its scheme may have any name.
func forms() []form {
	return []form{
		{"https://", isSecureRest},
		{"http://", isLocalRest},
		{"", isPrivate},
	}
}

// isSecureRest takes the brackets first: a colon between them is the host's own.
func isSecureRest(s string) bool {
	if inner, fits := strings.CutPrefix(s, "["); fits {
		number, rest, closed := strings.Cut(inner, "]")
		return closed && number != "" && all(number, isNumberByte) && isBehindHost(rest)
	}
	end := lengthAhead(s, ":/?")
	return isHostName(s[:end]) && isBehindHost(s[end:])
}

func isLocalRest(s string) bool {
	for _, host := range localHosts {
		if rest, fits := strings.CutPrefix(s, host); fits {
			return isBehindHost(rest)
		}
	}
	return false
}

// isPrivate refuses a path of two slashes: behind them a host would stand.
func isPrivate(s string) bool {
	scheme, rest, _ := strings.Cut(s, ":")
	return isPrivateScheme(scheme) && strings.HasPrefix(rest, "/") && !strings.HasPrefix(rest, "//") && isPathAndQuery(rest)
}

func isPrivateScheme(s string) bool {
	return s != "" && isSmallLetter(s[0]) && all(s, isSchemeByte) && strings.Contains(s, ".")
}

// lengthAhead is how many bytes of s stand ahead of the first that is one of these.
func lengthAhead(s, bytes string) int {
	if at := strings.IndexAny(s, bytes); at >= 0 {
		return at
	}
	return len(s)
}

func isHostName(s string) bool {
	for label := range strings.SplitSeq(s, ".") {
		if !isLabel(label) {
			return false
		}
	}
	return true
}

func isLabel(s string) bool {
	return isWord(s, maxLabel, isLabelByte) && s[0] != '-' && s[len(s)-1] != '-'
}

// isBehindHost: may s stand behind a host: a port or none, and a path with or without a query?
func isBehindHost(s string) bool {
	if rest, fits := strings.CutPrefix(s, ":"); fits {
		end := lengthAhead(rest, "/?")
		return isPort(rest[:end]) && isPathAndQuery(rest[end:])
	}
	return isPathAndQuery(s)
}

// isPort leans on a port's being a number of 16 bits, the zero left out.
func isPort(s string) bool {
	_, err := strconv.ParseUint(s, 10, 16)
	return err == nil && s[0] != '0'
}

func isPathAndQuery(s string) bool {
	path, query, _ := Split(s)
	return isPath(path) && isMadeOf(query, "/?")
}

func isPath(s string) bool {
	return s == "" || s[0] == '/' && isMadeOf(s, "/")
}

// isMadeOf: is s nothing but path bytes and these?
func isMadeOf(s, more string) bool {
	at := 0
walk:
	for at < len(s) {
		switch next := s[at]; {
		case next == '%':
			if !hasDigits(s[at:]) {
				break walk
			}
			at += escapeSize
		case isPathByte(next), among(more, next):
			at++
		default:
			break walk
		}
	}
	return at == len(s)
}

// hasDigits: are the two digits of the escape there with whose percent sign s begins?
func hasDigits(s string) bool {
	return len(s) >= escapeSize && all(s[1:escapeSize], isHexDigit)
}

// joint is what stands between an address and the parameters that are put into it.
func joint(redirect string) string {
	_, query, has := Split(redirect)
	switch {
	case !has:
		return "?"
	case query != "":
		return "&"
	}
	return ""
}
