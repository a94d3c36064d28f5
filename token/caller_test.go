package token_test

import (
	"encoding/base64"
	"math/rand"
	"strings"
	"testing"

	"usher/api"
)

func named(client string, hasShown bool) answer { return answer{client: client, hasShown: hasShown} }

func wrong(reason string) answer { return answer{reason: reason} }

// coded is a Basic field with this text in it.
func coded(text string) string { return "Basic " + base64.StdEncoding.EncodeToString([]byte(text)) }

// brokenFields are values of an Authorization field that are not Basic's, or say nothing.
func brokenFields() []string {
	return []string{
		"Bearer x", "Bearer " + basic("web")[6:], "Basi " + basic("web")[6:], "Basic", "Basic ", "Basic  ", " ", "\t", ":", "web:pw", " " + basic("web"), basic("web") + " ", "Basic\t" + basic("web")[6:],
		strings.Replace(basic("web"), " ", "", 1), strings.TrimRight(basic("svc"), "="), basic("web") + "=", coded("webpw"), coded(""), coded("web%:pw"), coded("web:%zz"), coded("web:p w"), coded("web:\xff"), "Basic d2ViOnB3\n", "Basic d2V-OnB3", "Basic d2ViOnB4dB==",
		"baſic " + basic("web")[6:], "\x00", "Basic " + basic("web"),
	}
}

// TestCallerByField goes down the first list: each row where it applies, and where later ones apply too.
func TestCallerByField(t *testing.T) {
	b := newBench(t, config(), 1)
	forms := [][]api.Pair{
		nil, pairs("client_id", "web"), pairs("client_id", "app"), pairs("client_id", "web", "client_id", "web"), pairs("client_secret", "pw"), pairs("client_id", "web", "client_secret", "pw"), pairs("client_secret", "pw", "client_secret", "pw"),
	}
	for _, auth := range brokenFields() {
		for _, form := range forms {
			b.must(wrong("invalid_client"), caller(auth, form))
		}
	}
	for _, name := range []string{"web", "app", "nobody", ""} {
		for _, pass := range []string{"pw", "no", ""} {
			auth := basicOf(name, pass)
			for _, form := range [][]api.Pair{
				pairs("client_secret", "pw"), pairs("client_secret", "no"), pairs("client_secret", "a", "client_secret", "b"), pairs("client_secret", "", "client_secret", "pw"), pairs("client_id", name, "client_secret", "pw"),
				pairs("client_id", "x"), pairs("client_id", name+"x"), pairs("client_id", "WEB"), pairs("client_id", "svc"), pairs("client_id", "a", "client_id", "a"), pairs("client_id", "x", "client_id", name+"y"),
			} {
				b.must(wrong("invalid_request"), caller(auth, form))
			}
		}
	}
	b.must(wrong("invalid_request"), caller(basic("web"), pairs("client_id", "web", "client_id", "web")))
	for _, auth := range []string{
		basicOf("nobody", "pw"), basicOf("", ""), basicOf("", "pw"), basicOf("app", ""), basicOf("app", "pw"), basicOf("app", "x"), basicOf("web", "no"), basicOf("web", ""), basicOf("web", "pw "), basicOf("web", "Pw"), basicOf("WEB", "pw"), basicOf("svc", "pw"), basicOf("mute", "x"), basicOf("web", "pw:"), coded("web:pw:"), coded("web::pw"),
	} {
		name, _, _ := readBasic(auth)
		b.must(wrong("invalid_client"), caller(auth, nil))
		b.must(wrong("invalid_client"), caller(auth, pairs("client_id", name, "client_secret", "", "x", "y")))
	}
	for name := range passwords {
		for _, form := range [][]api.Pair{
			nil, pairs("client_id", name), pairs("client_id", ""), pairs("client_id", "", "client_id", name, "client_id", ""), pairs("client_secret", ""), pairs("Client_secret", "x", "client_id ", "y", "", "z", "code", "c", "token", "t"),
		} {
			b.must(named(name, true), caller(basic(name), form))
		}
	}
	b.must(named("web", true), caller("bAsIC   "+basic("web")[6:], nil))
	b.must(named("web", true), caller(coded("%77eb:%70w"), nil))
}

// TestCallerByForm goes down the second list: each row where it applies, and where later ones apply too.
func TestCallerByForm(t *testing.T) {
	b := newBench(t, config(), 1)
	for _, form := range [][]api.Pair{
		nil, pairs("client_id", ""), pairs("client_secret", "pw"), pairs("client_secret", "pw", "client_secret", "pw"), pairs("client_id", "", "client_id", "", "client_secret", "a", "client_secret", "b"), pairs("Client_id", "app"), pairs("client_id ", "app"), pairs("", "app"), pairs("app", "client_id"),
	} {
		b.must(wrong("invalid_client"), caller("", form))
	}
	for _, form := range [][]api.Pair{
		pairs("client_id", "app", "client_id", "app"), pairs("client_id", "app", "client_id", "web"), pairs("client_id", "x", "client_id", "y", "client_id", "z"), pairs("client_id", "web", "client_secret", "pw", "client_id", "web"), pairs("client_id", "x", "client_id", "x", "client_secret", "a", "client_secret", "b"),
		pairs("client_id", "web", "client_secret", "pw", "client_secret", "pw"), pairs("client_id", "app", "client_secret", "x", "client_secret", "y"), pairs("client_id", "nobody", "client_secret", "x", "client_secret", "y"), pairs("client_secret", "x", "client_id", "web", "client_secret", "y", "client_secret", "z"),
	} {
		b.must(wrong("invalid_request"), caller("", form))
	}
	for _, form := range [][]api.Pair{
		pairs("client_id", "nobody"), pairs("client_id", "nobody", "client_secret", "pw"), pairs("client_id", "App"), pairs("client_id", "app "), pairs("client_id", "ap"),
		pairs("client_id", "app", "client_secret", "x"), pairs("client_id", "app", "client_secret", "pw"),
		pairs("client_id", "web"), pairs("client_id", "web", "client_secret", ""), pairs("client_id", "web", "client_secret", "no"), pairs("client_id", "web", "client_secret", "s3cret"), pairs("client_id", "web", "Client_secret", "pw"),
		pairs("client_id", "mute"), pairs("client_id", "mute", "client_secret", ""), pairs("client_id", "mute", "client_secret", "x"), // the empty password is not there
	} {
		b.must(wrong("invalid_client"), caller("", form))
	}
	for _, name := range []string{"app", "spa"} {
		for _, form := range [][]api.Pair{pairs("client_id", name), pairs("client_id", name, "client_secret", ""), pairs("client_id", "", "client_id", name, "token", "x"), pairs("client_secret", "", "client_id", name, "client_secret", "")} {
			b.must(named(name, false), caller("", form))
		}
	}
	for name, pass := range passwords {
		if pass != "" {
			b.must(named(name, true), caller("", pairs("client_id", name, "client_secret", pass)))
			b.must(named(name, true), caller("", pairs("client_secret", "", "x", "y", "client_secret", pass, "client_id", "", "client_id", name)))
		}
	}
}

// TestRoundsOfASecret: the secret is asked for with the configuration's rounds.
func TestRoundsOfASecret(t *testing.T) {
	for _, rounds := range []int{1, 2, 7, 1000} {
		b := newBench(t, configOf(rounds), 1)
		b.must(named("web", true), caller(basic("web"), nil))
		b.must(named("web", true), caller("", pairs("client_id", "web", "client_secret", "pw")))
		b.must(wrong("invalid_client"), caller(basicOf("web", "no"), nil))
		c := configOf(rounds)
		c.Rounds = rounds%1000 + 1
		b = newBench(t, c, 1)
		b.must(wrong("invalid_client"), caller(basic("web"), nil))
		b.must(wrong("invalid_client"), caller("", pairs("client_id", "web", "client_secret", "pw")))
		b.must(named("app", false), caller("", pairs("client_id", "app")))
	}
}

// TestEveryCaller takes all fields, IDs and secrets together.
func TestEveryCaller(t *testing.T) {
	b := newBench(t, config(), 1)
	auths := append(brokenFields(), "", "", "", basic("web"), basic("svc"), basic("mute"), basic("a:b%+&="), basicOf("web", "no"), basicOf("app", ""), basicOf("app", "pw"), basicOf("nobody", "pw"), basicOf("", ""))
	values := func(name string, texts ...string) [][]api.Pair {
		list := [][]api.Pair{nil}
		for _, one := range texts {
			list = append(list, pairs(name, one))
			for _, two := range texts {
				list = append(list, pairs(name, one, name, two))
			}
		}
		return list
	}
	random := rand.New(rand.NewSource(171))
	reasons := map[string]int{}
	for _, auth := range auths {
		for _, ids := range values("client_id", "", "app", "web", "svc", "mute", "nobody", "a:b%+&=") {
			for _, secrets := range values("client_secret", "", "pw", "s3cret", "no") {
				form := append(append([]api.Pair{}, ids...), secrets...)
				random.Shuffle(len(form), func(i, j int) { form[i], form[j] = form[j], form[i] })
				got := b.play(caller(auth, form))
				reasons[got.reason]++
				if (got.client == "") != (got.reason != "") || got.reason != "" && got.hasShown {
					t.Fatalf("P17.1: %+v", got)
				}
			}
		}
	}
	for _, reason := range []string{"", "invalid_client", "invalid_request"} {
		if reasons[reason] < 100 {
			t.Errorf("%q was answered %d times: too few to tell", reason, reasons[reason])
		}
	}
}

// TestCallerChangesNothing, on a disk that is dead or full neither: it asks the configuration alone.
func TestCallerChangesNothing(t *testing.T) {
	for _, room := range []int{0, plenty} {
		b := benchOn(t, config(), 1, nil, room)
		b.push(1, 2)
		before := b.store.State()
		ask := func() {
			b.must(named("web", true), caller(basic("web"), asking(1)))
			b.must(named("app", false), caller("", and(asking(1), "client_id", "app")))
			b.must(wrong("invalid_client"), caller("", asking(1)))
			b.must(wrong("invalid_request"), caller(basic("web"), and(asking(1), "client_id", "app")))
		}
		ask()
		b.counts = false
		b.disk.Crash(0)
		ask()
		if !isSameState(before, b.store.State()) || b.source.Left() != 2 {
			t.Error("P17.1: Caller has changed something")
		}
	}
}

// TestRefusalsOfTheCaller: the other calls refuse by the caller's error, ahead of all else; only invalid_client challenges.
func TestRefusalsOfTheCaller(t *testing.T) {
	b := newBench(t, config(), 1)
	b.family(1, 2, 3, "web", "read")
	b.code(4, "web", "read")
	for _, c := range []struct {
		auth   string
		params []api.Pair
		reason string
	}{
		{"Bearer x", nil, "invalid_client"}, {"", nil, "invalid_client"}, {basicOf("web", "no"), nil, "invalid_client"}, {"", pairs("client_id", "web"), "invalid_client"}, {"", pairs("client_id", "app", "client_secret", "x"), "invalid_client"},
		{basic("web"), pairs("client_secret", "pw"), "invalid_request"}, {basic("web"), pairs("client_id", "app"), "invalid_request"}, {"", pairs("client_id", "app", "client_id", "app"), "invalid_request"},
	} {
		for _, more := range [][]api.Pair{nil, asking(1), asking(4), with(asking(4), "grant_type", "x"), pairs("token", id(2)), pairs("token", id(3)), pairs("token", "x", "token", "y")} {
			params := append(append([]api.Pair{}, c.params...), more...)
			for _, now := range []int{-1, 6, 1000} {
				b.must(refused(c.reason), redeem(now, c.auth, params))
				b.must(refused(c.reason), introspect(now, c.auth, params))
				b.must(refused(c.reason), revoke(now, c.auth, params))
			}
		}
	}
}
