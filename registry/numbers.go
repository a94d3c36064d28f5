package registry

import "usher/api"

// neededNumbers is how many of the numbers must be said: the first ones.
const neededNumbers = 8

// A number of a configuration: the word for it, and what it may be.
type number struct {
	word            string
	least, greatest int
}

var numbers = [...]number{
	{"code-life", 1, api.MaxLife},
	{"token-life", 1, api.MaxLife},
	{"session-life", 1, api.MaxLife},
	{"refresh-life", 1, api.MaxLife},
	{"disk", 1, api.MaxDisk},
	{"head", 1, api.MaxHead},
	{"body", 0, api.MaxBody},
	{"rounds", 1, api.MaxRounds},
	{"fails", 0, api.MaxFails},
	{"lock", 0, api.MaxLife},
}

// places are where the numbers stand in c, in the order of the table.
func places(c *api.Config) []*int {
	return []*int{
		&c.CodeLife,
		&c.TokenLife,
		&c.SessionLife,
		&c.RefreshLife,
		&c.DiskBytes,
		&c.HeadMax,
		&c.BodyMax,
		&c.Rounds,
		&c.Fails,
		&c.LockTime,
	}
}

func (n number) takes(value int) bool {
	return n.least <= value && value <= n.greatest
}

// numberOf is the place in the table of the number that has that word; -1 if none has it.
func numberOf(word string) int {
	for i, n := range numbers {
		if n.word == word {
			return i
		}
	}
	return -1
}
