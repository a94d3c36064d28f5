package world_test

import (
	"math/rand"
	"sync"
	"testing"
)

// TestTheTourInTheLedger: W3, W6 to W9, W11 to W16, W19 to W21.
func TestTheTourInTheLedger(t *testing.T) {
	ledgerOf(t, config(), steps(tour())).checkAll()
}

// TestRunsInTheLedger: the same of runs by chance, of several browsers and clients, with power failures at any operation. What was answered is counted, so that it is seen that all of it was met.
func TestRunsInTheLedger(t *testing.T) {
	var lock sync.Mutex
	statuses := map[int]int{}
	codes, given, renewed, deaths := 0, 0, 0, 0
	t.Run("all", func(t *testing.T) {
		for group := range 8 {
			t.Run(decimal(group), func(t *testing.T) {
				t.Parallel()
				random := rand.New(rand.NewSource(int64(2080 + group)))
				for range 10 {
					p := newTroupe(t, random, true)
					p.playOn(140)
					ledgerOf(t, p.config, p.script).checkAll()
					lock.Lock()
					for status, count := range p.statuses {
						statuses[status] += count
					}
					codes, given, renewed, deaths = codes+len(p.codes), given+len(p.tokens), renewed+len(p.renewals), deaths+p.deaths
					lock.Unlock()
				}
			})
		}
	})
	for _, status := range []int{200, 303, 400, 401, 403, 404, 405, 415, 429, 500, 503} {
		if statuses[status] < 10 {
			t.Errorf("%d was answered %d times: too few to tell", status, statuses[status])
		}
	}
	if codes < 300 || given < 120 || renewed < 50 || deaths < 60 {
		t.Errorf("%d codes, %d tokens, %d refresh tokens, %d deaths: too few to tell", codes, given, renewed, deaths)
	}
}
