package world

import (
	"usher/api"
	"usher/disk"
	"usher/pkce"
	"usher/server"
	"usher/store"
)

// A machine is a server over a disk, with its connections, its time and its draws. The store and the server are new behind each boot; all else outlasts it.
type machine struct {
	config api.Config
	disk   *disk.Disk
	source *pkce.Source
	now    int
	lines  [api.MaxConns]line
	store  *store.Store
	server *server.Server
	boots  int
}

// newMachine has not booted yet.
func newMachine(c api.Config, data string, now int) *machine {
	return &machine{
		config: c,
		disk:   disk.Open([]byte(data), c.DiskBytes),
		source: pkce.NewSource(),
		now:    now,
	}
}

// do plays a step; say lets a text out on the step's connection.
func (m *machine) do(step api.Step, say func(text string)) {
	switch step.Kind {
	case api.StepBytes:
		m.take(step.Conn, step.Data, say)
	case api.StepTick:
		m.tick(step.N)
	case api.StepDraw:
		_ = m.source.Push(step.Data) // a draw that is refused is none
	case api.StepClose:
		m.free(step.Conn)
	case api.StepCrash:
		m.disk.Crash(step.N)
		m.bootAgain()
	case api.StepArm:
		m.disk.Arm(step.N, step.M)
	}
}

// tick holds the ticks against the time that is left, so that no sum leaves the numbers.
func (m *machine) tick(ticks int) {
	m.now += min(max(ticks, 0), api.MaxNow-m.now)
}

// boot frees the connections and opens the store anew, with a new server over it. It refuses just what lay on the disk ahead of the machine and cannot be played.
func (m *machine) boot() error {
	for conn := range m.lines {
		m.free(conn)
	}
	opened, err := m.open()
	if err != nil {
		return err
	}
	m.boots++
	m.store = opened
	m.server = server.New(m.config, opened, m.source)
	return nil
}

// bootAgain boots a machine that has booted before: what it has written itself can be played, so there is nothing to refuse.
func (m *machine) bootAgain() {
	_ = m.boot()
}

// open brings the power back until it does not fail while the store is opened. Each failing uses up an arm, so it ends.
func (m *machine) open() (*store.Store, error) {
	for {
		m.disk.Revive()
		opened, err := store.Open(m.disk)
		if err != api.ErrDead {
			return opened, err
		}
	}
}

// trace is what all has led to, beside what went out.
func (m *machine) trace(outs []api.Out) api.Trace {
	data, synced := m.disk.Look()
	return api.Trace{
		Outs:   outs,
		State:  m.store.State(),
		Disk:   string(data),
		Synced: synced,
		Now:    m.now,
		Boots:  m.boots,
	}
}
