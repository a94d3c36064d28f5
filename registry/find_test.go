package registry_test

import (
	"reflect"
	"strings"
	"testing"

	"usher/api"
	"usher/registry"
)

func mustFindClient(t *testing.T, c api.Config, id string, want api.Client, there bool) {
	t.Helper()
	if got, ok := registry.FindClient(c, id); !reflect.DeepEqual(got, want) || ok != there {
		t.Errorf("P11.5: FindClient(.., %q) = %v, %v, want %v, %v", id, got, ok, want, there)
	}
}

func mustFindUser(t *testing.T, c api.Config, name string, want api.User, there bool) {
	t.Helper()
	if got, ok := registry.FindUser(c, name); got != want || ok != there {
		t.Errorf("P11.5: FindUser(.., %q) = %v, %v, want %v, %v", name, got, ok, want, there)
	}
}

func mustRegistered(t *testing.T, c api.Client, redirect string, want bool) {
	t.Helper()
	if got := registry.Registered(c, redirect); got != want {
		t.Errorf("P11.5: Registered(%v, %q) = %v, want %v", c, redirect, got, want)
	}
}

func TestFind(t *testing.T) {
	c := full()
	for _, client := range c.Clients {
		mustFindClient(t, c, client.ID, client, true)
	}
	for _, user := range c.Users {
		mustFindUser(t, c, user.Name, user, true)
	}
	for _, name := range []string{"", "ap", "appp", "App", "app ", " app", "app\x00", "we", "WEB", "public"} {
		mustFindClient(t, c, name, api.Client{}, false)
		mustFindUser(t, c, name, api.User{}, false)
	}
	mustFindClient(t, c, "ann", api.Client{}, false)
	mustFindUser(t, c, "web", api.User{}, false)
	mustFindClient(t, api.Config{}, "", api.Client{}, false)
	mustFindUser(t, api.Config{}, "", api.User{}, false)
}

func TestFindAmongMany(t *testing.T) {
	c := base()
	c.Clients, c.Users = clients(64), users(64)
	for i := range 64 {
		mustFindClient(t, c, c.Clients[i].ID, c.Clients[i], true)
		mustFindUser(t, c, c.Users[i].Name, c.Users[i], true)
	}
}

// TestFindInWhatIsNoConfiguration: of two of one name the first is found, names and counts may be anything.
func TestFindInWhatIsNoConfiguration(t *testing.T) {
	odd := strings.Repeat("\xff ", 1000)
	c := api.Config{
		Clients: []api.Client{{ID: "b", Public: true}, {ID: "a", Redirects: []string{"x"}, Scopes: []string{"z", "y"}}, {ID: "a", Public: true}, {}, {ID: "", Public: true}, {ID: odd}},
		Users:   []api.User{{Name: "b"}, {Name: "a", Secret: secretOf(1)}, {Name: "a"}, {Secret: secretOf(2)}, {}, {Name: odd}},
	}
	mustFindClient(t, c, "a", c.Clients[1], true)
	mustFindClient(t, c, "", api.Client{}, true)
	mustFindClient(t, c, odd, c.Clients[5], true)
	mustFindClient(t, c, odd+" ", api.Client{}, false)
	mustFindUser(t, c, "a", c.Users[1], true)
	mustFindUser(t, c, "", c.Users[3], true)
	mustFindUser(t, c, odd, c.Users[5], true)
	mustFindUser(t, c, odd[1:], api.User{}, false)
	c.Clients, c.Users = clients(1000), users(1000)
	mustFindClient(t, c, "c999", c.Clients[999], true)
	mustFindUser(t, c, "u999", c.Users[999], true)
}

func TestRegistered(t *testing.T) {
	c := full().Clients[0]
	for _, address := range c.Redirects {
		mustRegistered(t, c, address, true)
		for _, other := range []string{address + "/", address + "?", address[1:], address[:len(address)-1], strings.ToUpper(address), " " + address, address + "\x00", address + " " + address} {
			mustRegistered(t, c, other, false)
		}
	}
	mustRegistered(t, c, "", false)
	mustRegistered(t, c, "read", false)
	mustRegistered(t, c, "app", false)
	mustRegistered(t, api.Client{}, "", false)
	mustRegistered(t, api.Client{Redirects: []string{"x", ""}}, "", true)
	mustRegistered(t, api.Client{Redirects: []string{"x", "x", "\xff"}}, "x", true)
	mustRegistered(t, api.Client{Redirects: []string{"x", "x", "\xff"}}, "\xff", true)
	mustRegistered(t, api.Client{Redirects: []string{"x", "x", "\xff"}}, "\xfe", false)
	many := api.Client{Redirects: addresses(500)}
	for _, address := range many.Redirects {
		mustRegistered(t, many, address, true)
	}
}
