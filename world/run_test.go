package world_test

import (
	"math/rand"
	"testing"
)

// TestRuns: what goes out, what lies on the disk and what is kept are just what the model says (W1), for several browsers and clients, with all that may fail. What was answered is counted, so that it is seen that all of it was met.
func TestRuns(t *testing.T) {
	t.Parallel()
	random := rand.New(rand.NewSource(201))
	statuses := map[int]int{}
	codes, given, renewed, deaths := 0, 0, 0, 0
	for range 300 {
		p := newTroupe(t, random, false)
		p.playOn(200)
		mustBeSame(t, "W1", mustRun(t, textOf(p.config), p.script...), p.model.trace())
		for status, count := range p.statuses {
			statuses[status] += count
		}
		codes, given, renewed, deaths = codes+len(p.codes), given+len(p.tokens), renewed+len(p.renewals), deaths+p.deaths
	}
	for _, status := range []int{200, 303, 400, 401, 403, 404, 405, 413, 415, 417, 429, 431, 500, 503, 505} {
		if statuses[status] < 5 {
			t.Errorf("%d was answered %d times: too few to tell", status, statuses[status])
		}
	}
	if codes < 1000 || given < 500 || renewed < 200 || deaths < 300 {
		t.Errorf("%d codes, %d tokens, %d refresh tokens, %d deaths: too few to tell", codes, given, renewed, deaths)
	}
}
