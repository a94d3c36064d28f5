package registry_test

import (
	"math"
	"strconv"
	"strings"
	"testing"

	"usher/api"
)

// A row of the chapter's table of numbers.
type row struct {
	word            string
	place           func(*api.Config) *int
	least, greatest int
}

func rows() []row {
	return []row{
		{"code-life", func(c *api.Config) *int { return &c.CodeLife }, 1, 1073741824},
		{"token-life", func(c *api.Config) *int { return &c.TokenLife }, 1, 1073741824},
		{"session-life", func(c *api.Config) *int { return &c.SessionLife }, 1, 1073741824},
		{"refresh-life", func(c *api.Config) *int { return &c.RefreshLife }, 1, 1073741824},
		{"disk", func(c *api.Config) *int { return &c.DiskBytes }, 1, 1073741824},
		{"head", func(c *api.Config) *int { return &c.HeadMax }, 1, 65536},
		{"body", func(c *api.Config) *int { return &c.BodyMax }, 0, 65536},
		{"rounds", func(c *api.Config) *int { return &c.Rounds }, 1, 1000},
		{"fails", func(c *api.Config) *int { return &c.Fails }, 0, 1000},
		{"lock", func(c *api.Config) *int { return &c.LockTime }, 0, 1073741824},
	}
}

// linesOf is the ten numbers of c as lines, also those that are 0.
func linesOf(c api.Config) []string {
	var lines []string
	for _, r := range rows() {
		lines = append(lines, r.word+" "+strconv.Itoa(*r.place(&c)))
	}
	return lines
}

func joined(lines []string) string {
	return strings.Join(lines, "\n") + "\n"
}

func TestEdgesOfNumbers(t *testing.T) {
	for _, r := range rows() {
		for _, value := range []int{r.least, r.least + 1, r.greatest - 1, r.greatest} {
			c := full()
			*r.place(&c) = value
			mustCheck(t, c, nil)
			c.Clients, c.Users = nil, nil
			mustRead(t, joined(linesOf(c)), c)
			mustNotRead(t, r.word+" "+strconv.Itoa(value), 2, api.ErrShort)
		}
		for _, value := range []int{math.MinInt, -r.greatest, -1, r.least - 1, r.greatest + 1, 1 << 40, math.MaxInt} {
			mustNotTextAfter(t, api.ErrArg, func(c *api.Config) { *r.place(c) = value })
			want := api.ErrArg
			if value < 0 || value > 9999999999 {
				want = api.ErrText
			}
			mustNotRead(t, head+r.word+" "+strconv.Itoa(value), 9, want)
		}
	}
}

// TestSpellingsOfNumbers: a number has one spelling.
func TestSpellingsOfNumbers(t *testing.T) {
	for _, r := range rows() {
		for _, digits := range []string{"", "00", "01", "0000000001", "00000000001", "+1", "-1", "-0", "1.0", "1e1", "0x1", "1_0", "1,0", "a", "1a", "a1", "1-1", "#1", "10000000000", "99999999999", strings.Repeat("1", 11), strings.Repeat("1", 300), "1 1", "1 #", "1 0", "/", ":", "1/", "1:"} {
			mustNotRead(t, r.word+" "+digits, 1, api.ErrText)
		}
		for _, digits := range []string{"4294967297", "1234567890", "9999999999", "2147483648", "8589934592"} {
			mustNotRead(t, r.word+" "+digits, 1, api.ErrArg)
		}
		for _, word := range []string{strings.ToUpper(r.word), r.word + "-", r.word[1:], r.word[:len(r.word)-1], "-" + r.word, strings.ToUpper(r.word[:1]) + r.word[1:], r.word + "\t", r.word + ":"} {
			mustNotRead(t, word+" 1", 1, api.ErrText)
		}
		mustNotRead(t, r.word, 1, api.ErrText)
	}
}

// TestOrderOfNumbers says them in the order of the table, the other way round, and each behind all others.
func TestOrderOfNumbers(t *testing.T) {
	c := base()
	for i, r := range rows() {
		*r.place(&c) = 11 * (i + 1)
	}
	lines := linesOf(c)
	mustText(t, c, joined(lines))
	for from := range lines {
		turned := append(append([]string(nil), lines[from:]...), lines[:from]...)
		mustRead(t, joined(turned), c)
		for i, j := 0, len(turned)-1; i < j; i, j = i+1, j-1 {
			turned[i], turned[j] = turned[j], turned[i]
		}
		mustRead(t, joined(turned), c)
	}
}

// TestNumberIsMissing: the first eight must be said, the last two not.
func TestNumberIsMissing(t *testing.T) {
	c := full()
	c.Clients, c.Users = nil, nil
	lines := linesOf(c)
	for i, r := range rows() {
		fewer := append(append([]string(nil), lines[:i]...), lines[i+1:]...)
		if i < 8 {
			mustNotRead(t, joined(fewer), 10, api.ErrShort)
			continue
		}
		without := c
		*r.place(&without) = 0
		mustRead(t, joined(fewer), without)
		mustText(t, without, joined(fewer))
	}
	mustRead(t, joined(lines[:8]), base())
	mustText(t, base(), joined(lines[:8]))
}

// TestNumberIsSaidTwice also with a value that may not be, and with 0, which is what was there.
func TestNumberIsSaidTwice(t *testing.T) {
	c := base()
	text := joined(linesOf(c))
	mustRead(t, text, c)
	for _, r := range rows() {
		mustNotRead(t, text+r.word+" "+strconv.Itoa(*r.place(&c)), 11, api.ErrTwice)
		mustNotRead(t, text+r.word+" "+strconv.Itoa(r.greatest), 11, api.ErrTwice)
		mustNotRead(t, text+r.word+" "+strconv.Itoa(r.least), 11, api.ErrTwice)
		mustNotRead(t, text+r.word+" "+strconv.Itoa(r.greatest+1), 11, api.ErrArg)
		mustNotRead(t, text+r.word+" 01", 11, api.ErrText)
		mustNotRead(t, text+r.word, 11, api.ErrText)
	}
}
