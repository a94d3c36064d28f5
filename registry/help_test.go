package registry_test

import (
	"encoding/hex"
	"fmt"
	"math/rand"
	"reflect"
	"slices"
	"strings"
	"testing"

	"usher/api"
	"usher/registry"
)

// head is the eight numbers that must be said, as the chapter's examples have them.
const head = "code-life 60\ntoken-life 3600\nsession-life 86400\nrefresh-life 90000\ndisk 1000000\nhead 8192\nbody 4096\nrounds 10\n"

// headLines is how many lines head has.
const headLines = 8

// zeros is a digest in hexadecimal.
var zeros = strings.Repeat("0", 64)

func base() api.Config {
	return api.Config{CodeLife: 60, TokenLife: 3600, SessionLife: 86400, RefreshLife: 90000, DiskBytes: 1000000, HeadMax: 8192, BodyMax: 4096, Rounds: 10}
}

// full has two clients of both kinds and two users.
func full() api.Config {
	c := base()
	c.Fails, c.LockTime = 5, 900
	c.Clients = []api.Client{
		{ID: "app", Public: true, Redirects: []string{"https://a.example/cb", "com.example.app:/cb"}, Scopes: []string{"read", "write"}},
		{ID: "web", Secret: secretOf(2), Redirects: []string{"https://w.example/"}, Scopes: []string{"offline_access", "read"}},
	}
	c.Users = []api.User{{Name: "ann", Secret: secretOf(1)}, {Name: "app", Secret: secretOf(64)}}
	return c
}

func fullText() string {
	return head + "fails 5\nlock 900\n" +
		"client app public\nredirect https://a.example/cb\nredirect com.example.app:/cb\nscopes read write\n" +
		"client web secret " + digitsOf(secretOf(2)) + "\nredirect https://w.example/\nscopes offline_access read\n" +
		"user ann " + digitsOf(secretOf(1)) + "\nuser app " + digitsOf(secretOf(64)) + "\n"
}

// secretOf has a salt of so many bytes.
func secretOf(salt int) api.Secret {
	return api.Secret{Salt: strings.Repeat("\x9f", salt), Digest: strings.Repeat("\xd0\x0d", 16)}
}

func digitsOf(s api.Secret) string {
	return hex.EncodeToString([]byte(s.Salt)) + " " + hex.EncodeToString([]byte(s.Digest))
}

func numbered(what string, count int) []string {
	list := make([]string, count)
	for i := range list {
		list[i] = fmt.Sprintf("%s%03d", what, i)
	}
	return list
}

func addresses(count int) []string {
	return numbered("https://a.example/", count)
}

// publicClient has so many addresses and scopes.
func publicClient(id string, redirects, scopes int) api.Client {
	return api.Client{ID: id, Public: true, Redirects: addresses(redirects), Scopes: numbered("s", scopes)}
}

func clients(count int) []api.Client {
	var list []api.Client
	for _, id := range numbered("c", count) {
		list = append(list, publicClient(id, 1, 1))
	}
	return list
}

func users(count int) []api.User {
	var list []api.User
	for _, name := range numbered("u", count) {
		list = append(list, api.User{Name: name, Secret: secretOf(1)})
	}
	return list
}

// copied shares no memory with c, nor has it spare room.
func copied(c api.Config) api.Config {
	c.Clients = slices.Clip(slices.Clone(c.Clients))
	for i := range c.Clients {
		c.Clients[i].Redirects = slices.Clip(slices.Clone(c.Clients[i].Redirects))
		c.Clients[i].Scopes = slices.Clip(slices.Clone(c.Clients[i].Scopes))
	}
	c.Users = slices.Clip(slices.Clone(c.Users))
	return c
}

// same takes a list without elements for nil.
func same(a, b api.Config) bool {
	return reflect.DeepEqual(plain(a), plain(b))
}

func plain(c api.Config) api.Config {
	c = copied(c)
	for i := range c.Clients {
		c.Clients[i].Redirects = append([]string(nil), c.Clients[i].Redirects...)
		c.Clients[i].Scopes = append([]string(nil), c.Clients[i].Scopes...)
	}
	c.Clients = append([]api.Client(nil), c.Clients...)
	c.Users = append([]api.User(nil), c.Users...)
	return c
}

func everyByte() string {
	b := make([]byte, 256)
	for i := range b {
		b[i] = byte(i)
	}
	return string(b)
}

func oneByte(n int) string {
	return string([]byte{byte(n)})
}

// noise is size bytes out of those of from, the same ones for the same source.
func noise(random *rand.Rand, from string, size int) string {
	b := make([]byte, size)
	for i := range b {
		b[i] = from[random.Intn(len(from))]
	}
	return string(b)
}

func short(s string) string {
	if len(s) > 300 {
		return fmt.Sprintf("%q .. %q (%d bytes)", s[:100], s[len(s)-200:], len(s))
	}
	return fmt.Sprintf("%q", s)
}

// mustRead fails unless the text is read as this configuration, which Check takes, and whose own text is read back as it.
func mustRead(t *testing.T, text string, want api.Config) {
	t.Helper()
	got, line, err := registry.Read(text)
	if !same(got, want) || line != 0 || err != nil {
		t.Errorf("P11.2: Read(%s) = %.300v, %d, %v, want %.300v", short(text), got, line, err, want)
		return
	}
	mustCheck(t, got, nil)
	again, err := registry.Text(got)
	if err == api.ErrMany {
		return
	}
	if back, line, err2 := registry.Read(again); err != nil || !same(back, want) || line != 0 || err2 != nil {
		t.Errorf("P11.4: what was read in %s is written as %s, %v, and read back as %.300v, %d, %v", short(text), short(again), err, back, line, err2)
	}
}

func mustNotRead(t *testing.T, text string, line int, want error) {
	t.Helper()
	got, at, err := registry.Read(text)
	if !reflect.DeepEqual(got, api.Config{}) || at != line || err != want {
		t.Errorf("P11.2: Read(%s) = %.300v, %d, %v, want nothing, %d, %v", short(text), got, at, err, line, want)
	}
}

func mustCheck(t *testing.T, c api.Config, want error) {
	t.Helper()
	if err := registry.Check(c); err != want {
		t.Errorf("P11.1: Check(%.300v) = %v, want %v", c, err, want)
	}
}

// mustText fails unless c is written as this text, and read back out of it.
func mustText(t *testing.T, c api.Config, want string) {
	t.Helper()
	mustCheck(t, c, nil)
	got, err := registry.Text(c)
	if got != want || err != nil {
		t.Errorf("P11.3: Text(%.300v) = %s, %v, want %s", c, short(got), err, short(want))
		return
	}
	back, line, err := registry.Read(got)
	if !same(back, c) || line != 0 || err != nil {
		t.Errorf("P11.4: the text of %.300v is read back as %.300v, %d, %v", c, back, line, err)
	}
}

// mustNotText fails unless Check and Text both answer the refusal.
func mustNotText(t *testing.T, c api.Config, want error) {
	t.Helper()
	mustCheck(t, c, want)
	if got, err := registry.Text(c); got != "" || err != want {
		t.Errorf("P11.3: Text(%.300v) = %s, %v, want nothing and %v", c, short(got), err, want)
	}
}

// mustNotTextAfter changes a full configuration in some ways, and then in each the refusal must come.
func mustNotTextAfter(t *testing.T, want error, changes ...func(*api.Config)) {
	t.Helper()
	c := full()
	for _, change := range changes {
		change(&c)
	}
	mustNotText(t, c, want)
}
