package registry_test

import (
	"math/rand"
	"slices"
	"strings"
	"testing"

	"usher/api"
	"usher/registry"
)

// dressed says the same as a text, with blanks, blank lines and comments by chance.
func dressed(random *rand.Rand, text string) string {
	var b strings.Builder
	for _, line := range strings.Split(strings.TrimSuffix(text, "\n"), "\n") {
		for random.Intn(4) == 0 {
			b.WriteString([]string{"\n", "  \n", "#\n", " # rounds 0\n", "# \x00\xff\n"}[random.Intn(5)])
		}
		b.WriteString(blanks(random, 0))
		b.WriteString(strings.Join(strings.Split(line, " "), blanks(random, 1)))
		b.WriteString(blanks(random, 0) + "\n")
	}
	return strings.TrimSuffix(b.String(), "\n"[:random.Intn(2)])
}

func blanks(random *rand.Rand, least int) string {
	return strings.Repeat(" ", least+random.Intn(3))
}

// mixed is the parts in an order by chance, the lines of each part together.
func mixed(random *rand.Rand, parts [][]string) []string {
	var list []string
	for len(parts) > 0 {
		at := random.Intn(len(parts))
		list = append(list, parts[at]...)
		parts = slices.Delete(parts, at, at+1)
	}
	return list
}

// TestOrderOfLines puts the blocks of clients, the users and the numbers into other orders: only the order of clients and users changes.
func TestOrderOfLines(t *testing.T) {
	random := rand.New(rand.NewSource(1104))
	for range 500 {
		c := randomConfig(random)
		var parts [][]string
		for _, line := range strings.SplitAfter(strings.TrimSuffix(textOf(c), "\n"), "\n") {
			line = strings.TrimSuffix(line, "\n")
			word, _, _ := strings.Cut(line, " ")
			if word == "redirect" || word == "scopes" {
				parts[len(parts)-1] = append(parts[len(parts)-1], line)
				continue
			}
			parts = append(parts, []string{line})
		}
		text := dressed(random, strings.Join(mixed(random, parts), "\n"))
		got, line, err := registry.Read(text)
		if line != 0 || err != nil {
			t.Fatalf("P11.4: Read(%s): %d, %v", short(text), line, err)
		}
		want, _, _ := readByModel(text)
		if !same(got, want) {
			t.Errorf("P11.4: Read(%s) = %v, want %v", short(text), got, want)
		}
		if !same(sorted(got), sorted(c)) {
			t.Errorf("P11.4: Read(%s) = %v, want %v but for the order", short(text), got, c)
		}
	}
}

func sorted(c api.Config) api.Config {
	c = copied(c)
	slices.SortFunc(c.Clients, func(a, b api.Client) int { return strings.Compare(a.ID, b.ID) })
	slices.SortFunc(c.Users, func(a, b api.User) int { return strings.Compare(a.Name, b.Name) })
	return c
}

// TestLinesBetween: other lines may stand between a client and its own lines.
func TestLinesBetween(t *testing.T) {
	c := one(publicClient("app", 2, 2))
	c.Users = users(2)
	user := func(at int) string { return "user " + c.Users[at].Name + " " + digitsOf(c.Users[at].Secret) + "\n" }
	mustRead(t, "client app public\n"+user(0)+"scopes s001 s000\n"+head+"redirect https://a.example/000\n# x\n"+user(1)+"\nredirect https://a.example/001\n", c)
}

// randomConfig is one that Check takes.
func randomConfig(random *rand.Rand) api.Config {
	var c api.Config
	for _, r := range rows() {
		*r.place(&c) = r.least + random.Intn(r.greatest-r.least+1)
		if random.Intn(4) == 0 {
			*r.place(&c) = r.least
		}
	}
	for _, id := range someOf(random, numbered("c", 6), 0) {
		client := api.Client{ID: id, Public: random.Intn(2) == 0, Scopes: someOf(random, numbered("s", 16), 1), Redirects: someOf(random, addresses(8), 1)}
		slices.Sort(client.Scopes)
		if !client.Public {
			client.Secret = randomSecret(random)
		}
		c.Clients = append(c.Clients, client)
	}
	for _, name := range someOf(random, numbered("c", 6), 0) {
		c.Users = append(c.Users, api.User{Name: name, Secret: randomSecret(random)})
	}
	return c
}

func randomSecret(random *rand.Rand) api.Secret {
	return api.Secret{Salt: noise(random, everyByte(), 1+random.Intn(64)), Digest: noise(random, everyByte(), 32)}
}

// someOf is some of a list, at least so many, often all of it, in any order.
func someOf(random *rand.Rand, list []string, least int) []string {
	random.Shuffle(len(list), func(i, j int) { list[i], list[j] = list[j], list[i] })
	if random.Intn(4) == 0 {
		return list
	}
	return list[:least+random.Intn(len(list)-least+1)]
}

func TestConfigurationsByChance(t *testing.T) {
	random := rand.New(rand.NewSource(1105))
	for range 2000 {
		mustTextBack(t, randomConfig(random))
	}
}

// words are what stands in the texts of TestTextsByChance.
func words() []string {
	list := []string{"client", "redirect", "scopes", "user", "public", "secret", "app", "web", "ann", "00", "0", "1", "1000", "1001", "9999999999", "5a5a", zeros, zeros + "00", zeros + "0", "https://a.example/", "https://b.example/", "http://localhost:80/", "http://b.example/", "read", "write", "\"", "#", "x", "\x00", "\x7f", "\xff", "\t", strings.Repeat("n", 65)}
	for _, r := range rows() {
		list = append(list, r.word)
	}
	return list
}

// spoiled is the lines of a text with one change by chance.
func spoiled(random *rand.Rand, lines []string) []string {
	lines = slices.Clone(lines)
	list := words()
	at := random.Intn(len(lines))
	parts := strings.Split(lines[at], " ")
	word := random.Intn(len(parts))
	switch random.Intn(9) {
	case 0:
		return slices.Delete(lines, at, at+1)
	case 1:
		return slices.Insert(lines, random.Intn(len(lines)), lines[at])
	case 2:
		other := random.Intn(len(lines))
		lines[at], lines[other] = lines[other], lines[at]
		return lines
	case 3:
		parts = slices.Delete(parts, word, word+1)
	case 4:
		parts = slices.Insert(parts, word, parts[random.Intn(len(parts))])
	case 5:
		parts = slices.Insert(parts, word, list[random.Intn(len(list))])
	case 6:
		parts[word] = list[random.Intn(len(list))]
	case 7:
		parts[word] = strings.Split(lines[random.Intn(len(lines))], " ")[0]
	case 8:
		cut := random.Intn(len(parts[word]) + 1)
		parts[word] = parts[word][:cut] + noise(random, everyByte(), random.Intn(2)) + parts[word][cut:]
	}
	lines[at] = strings.Join(parts, " ")
	return lines
}

// TestTextsByChance holds Read against the model, on texts that are right, and wrong in one place or a few.
func TestTextsByChance(t *testing.T) {
	random := rand.New(rand.NewSource(1106))
	times := map[error]int{}
	for range 10000 {
		lines := strings.Split(strings.TrimSuffix(textOf(randomConfig(random)), "\n"), "\n")
		for range random.Intn(4) {
			lines = spoiled(random, lines)
			if len(lines) == 0 {
				lines = []string{""}
			}
		}
		text := strings.Join(lines, "\n")
		if random.Intn(2) == 0 {
			text = dressed(random, text)
		}
		mustReadAsModel(t, text, times)
	}
	for _, err := range []error{nil, api.ErrText, api.ErrArg, api.ErrTwice, api.ErrMany, api.ErrShort} {
		if times[err] < 20 {
			t.Errorf("the texts led to %v %d times", err, times[err])
		}
	}
}

func mustReadAsModel(t *testing.T, text string, times map[error]int) {
	t.Helper()
	want, line, err := readByModel(text)
	times[err]++
	if err != nil {
		mustNotRead(t, text, line, err)
		return
	}
	mustRead(t, text, want)
}

// TestWordsByChance strings words together, without any order.
func TestWordsByChance(t *testing.T) {
	random := rand.New(rand.NewSource(1107))
	list := words()
	times := map[error]int{}
	for range 10000 {
		var b strings.Builder
		b.WriteString([]string{"", head, app, app + appEnd}[random.Intn(4)])
		for range random.Intn(12) {
			b.WriteString(list[random.Intn(len(list))] + []string{" ", " ", " ", "  ", "\n"}[random.Intn(5)])
		}
		mustReadAsModel(t, b.String(), times)
	}
}
