package registry_test

import (
	"math"
	"math/rand"
	"reflect"
	"slices"
	"strings"
	"sync"
	"testing"

	"usher/api"
	"usher/registry"
)

// roomy is c with spare room behind each list, that holds something.
func roomy(c api.Config) api.Config {
	c = copied(c)
	for i := range c.Clients {
		c.Clients[i].Redirects = withRoom(c.Clients[i].Redirects, "https://spare.example/")
		c.Clients[i].Scopes = withRoom(c.Clients[i].Scopes, "spare")
	}
	c.Clients = withRoom(c.Clients, api.Client{ID: "spare"})
	c.Users = withRoom(c.Users, api.User{Name: "spare"})
	return c
}

func withRoom[T any](list []T, spare T) []T {
	return append(slices.Clone(list), spare, spare, spare)[:len(list)]
}

// whole is all that the lists of c hold, their spare room too.
func whole(c api.Config) api.Config {
	c = api.Config{Clients: slices.Clone(c.Clients[:cap(c.Clients)]), Users: slices.Clone(c.Users[:cap(c.Users)])}
	for i, client := range c.Clients {
		c.Clients[i].Redirects = slices.Clone(client.Redirects[:cap(client.Redirects)])
		c.Clients[i].Scopes = slices.Clone(client.Scopes[:cap(client.Scopes)])
	}
	return c
}

// spoil writes all lists of c full, their spare room too.
func spoil(c api.Config) {
	for _, client := range c.Clients[:cap(c.Clients)] {
		spoilTexts(client.Redirects)
		spoilTexts(client.Scopes)
	}
	for i := range c.Clients[:cap(c.Clients)] {
		c.Clients[:cap(c.Clients)][i] = api.Client{ID: "written over"}
	}
	for i := range c.Users[:cap(c.Users)] {
		c.Users[:cap(c.Users)][i] = api.User{Name: "written over"}
	}
}

func spoilTexts(list []string) {
	list = list[:cap(list)]
	for i := range list {
		list[i] = "written over"
	}
	_ = append(list, "one more")
}

func TestWhatIsHandedInStaysAsItWas(t *testing.T) {
	wrong := full()
	wrong.Clients[0].Scopes = []string{"b", "a", "b"}
	twice := full()
	twice.Clients[0].Redirects = []string{"https://b", "https://a", "https://b"}
	for _, c := range []api.Config{full(), wrong, twice, {}} {
		c = roomy(c)
		before := whole(c)
		registry.Check(c)
		registry.Text(c)
		for _, id := range []string{"app", "web", "spare", ""} {
			registry.FindClient(c, id)
			registry.FindUser(c, id)
		}
		for _, client := range c.Clients {
			registry.Registered(client, "https://spare.example/")
		}
		if !reflect.DeepEqual(whole(c), before) {
			t.Errorf("P11.6: of %v is left %v", before, whole(c))
		}
		mustFindClient(t, c, "spare", api.Client{}, false)
		mustFindUser(t, c, "spare", api.User{}, false)
	}
}

// TestReadAnswersNewLists writes one answer full: neither another one of the same text nor its own other lists change.
func TestReadAnswersNewLists(t *testing.T) {
	c := base()
	c.Clients, c.Users = clients(64), users(64)
	for i := range c.Clients {
		c.Clients[i].Redirects, c.Clients[i].Scopes = addresses(1+i%8), numbered("s", 1+i%16)
	}
	for _, want := range []api.Config{full(), c} {
		text := textOf(want)
		first, _, _ := registry.Read(text)
		second, _, _ := registry.Read(text)
		spoil(second)
		if !same(first, want) {
			t.Errorf("P11.6: once another answer was written full, this one is %.300v", first)
		}
		mustRead(t, text, want)
		mustShareNothing(t, first)
	}
}

// mustShareNothing writes the lists of c full, one behind the other, and looks at all others.
func mustShareNothing(t *testing.T, c api.Config) {
	t.Helper()
	want := copied(c)
	for i := range c.Clients {
		for _, list := range []*[]string{&c.Clients[i].Redirects, &c.Clients[i].Scopes} {
			kept := slices.Clone(*list)
			spoilTexts(*list)
			*list = kept
			if !same(c, want) {
				t.Fatalf("P11.6: two lists of one answer share memory: %.300v", c)
			}
		}
	}
}

func TestFoundClientIsNew(t *testing.T) {
	c := full()
	for _, client := range full().Clients {
		first, _ := registry.FindClient(c, client.ID)
		second, _ := registry.FindClient(c, client.ID)
		spoilTexts(second.Redirects)
		spoilTexts(second.Scopes)
		if !reflect.DeepEqual(first, client) || !same(c, full()) {
			t.Errorf("P11.6: once another answer was written full, this one is %v, and the configuration %v", first, c)
		}
		spoilTexts(first.Redirects)
		if !slices.Equal(first.Scopes, client.Scopes) {
			t.Errorf("P11.6: two lists of one answer share memory: %v", first)
		}
	}
	roomyOne := roomy(c)
	before := whole(roomyOne)
	found, _ := registry.FindClient(roomyOne, "app")
	spoilTexts(found.Redirects)
	spoilTexts(found.Scopes)
	_ = append(found.Redirects, "one more")
	if !reflect.DeepEqual(whole(roomyOne), before) {
		t.Errorf("P11.6: of %v is left %v", before, whole(roomyOne))
	}
}

// TestCallsKeepNothing makes right and wrong calls by turns, many at a time.
func TestCallsKeepNothing(t *testing.T) {
	c, text := full(), fullText()
	var calls sync.WaitGroup
	for range 8 {
		calls.Go(func() {
			for range 100 {
				mustNotRead(t, text+"x", strings.Count(text, "\n")+1, api.ErrText)
				mustRead(t, text, c)
				mustNotRead(t, "rounds 0", 1, api.ErrArg)
				mustNotRead(t, "", 1, api.ErrShort)
				mustRead(t, head, base())
				mustText(t, c, text)
				mustNotText(t, api.Config{}, api.ErrArg)
				mustFindClient(t, c, "web", c.Clients[1], true)
				mustFindUser(t, c, "web", api.User{}, false)
				mustRegistered(t, c.Clients[1], "https://w.example/", true)
			}
		})
	}
	calls.Wait()
}

// TestEveryCallEnds plays any bytes, long lines, and configurations of any things.
func TestEveryCallEnds(t *testing.T) {
	defer func() {
		if r := recover(); r != nil {
			t.Errorf("P11.6: a call panics: %v", r)
		}
	}()
	random := rand.New(rand.NewSource(1108))
	times := map[error]int{}
	for round := range 5000 {
		mustReadAsModel(t, noise(random, everyByte(), round%200), times)
		mustReadAsModel(t, noise(random, "#a0 \n", round%40), times)
		mustReadAsModel(t, app+"scopes "+noise(random, "ab \"\n", round%40), times)
	}
	for _, part := range []string{" ", "\n", "# ", "a ", "x", "\x00", "0", "scopes a ", "client a public\n", "rounds 1\n", "redirect https://a\n"} {
		for _, ahead := range []string{"", head, app, app + "scopes ", app + "redirect ", "client a secret ", "user a ", "rounds "} {
			long := ahead + strings.Repeat(part, 262144/len(part))
			for _, text := range []string{long, long[:min(len(long), 262144)]} {
				mustReadAsModel(t, text, times)
			}
		}
	}
	for _, count := range []int{0, 1, 64, 65, 10000} {
		for _, text := range []string{"", "a", everyByte(), strings.Repeat("a ", 10000)} {
			texts := slices.Repeat([]string{text}, count)
			c := api.Config{CodeLife: math.MinInt, Rounds: math.MaxInt}
			c.Clients = slices.Repeat([]api.Client{{ID: text, Redirects: texts[:min(count, 8)], Scopes: texts[:min(count, 16)]}}, count)
			c.Users = slices.Repeat([]api.User{{Name: text, Secret: api.Secret{Salt: text, Digest: text}}}, count)
			registry.Check(c)
			registry.Text(c)
			registry.FindClient(c, text)
			registry.FindUser(c, text+"x")
			registry.Registered(api.Client{Redirects: texts}, text)
			c.CodeLife, c.Rounds = 1, 1
			registry.Check(c)
			registry.Text(c)
		}
	}
}
