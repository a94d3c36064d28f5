package grant

import "usher/api"

// A brake slows the guessing of passwords: who has guessed wrong too often must wait.
type brake struct {
	fails, lockTime int
	guesses         map[string]guesses // by user; none is there for one who has never guessed wrong
}

// guesses is how many wrong passwords came one behind the other, and when the last of them did.
type guesses struct{ count, last int }

func newBrake(c api.Config) brake {
	return brake{fails: c.Fails, lockTime: c.LockTime, guesses: map[string]guesses{}}
}

// wait is how long the user is locked still; 0: not at all.
func (b *brake) wait(now int, user string) int {
	g := b.guesses[user]
	if b.fails < 1 || b.lockTime < 1 || g.count < b.fails {
		return 0
	}
	return max(0, g.last+b.lockTime-nearest(now))
}

// wrong counts a wrong password. One that comes late enough behind the last is a first one again.
func (b *brake) wrong(now int, user string) {
	g, at := b.guesses[user], nearest(now)
	if at >= g.last+b.lockTime {
		g.count = 0
	}
	b.guesses[user] = guesses{count: g.count + 1, last: at}
}

func (b *brake) right(user string) { delete(b.guesses, user) }

// nearest is the time that counts for a brake: its sums stay within an int, whatever now is.
func nearest(now int) int { return min(max(now, 0), api.MaxNow) }
