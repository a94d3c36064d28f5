package world_test

import (
	"errors"
	"slices"
	"testing"

	"usher/api"
)

// The model is the whole once more, by the words of the document and the library's own sums and codes: of the program it knows package api alone. It is plain and slow: what is kept is gone through again wherever that is simpler.
type model struct {
	config api.Config
	disk   modelDisk
	frames []modelFrame // of the log; the last one may have died on its way to the disk
	kept   modelKept
	draws  []string
	now    int
	lines  [16]modelLine
	brakes map[string]modelBrake
	boots  int
	steps  int
	outs   []api.Out
	served int // requests that were answered
}

type modelLine struct {
	data string
	shut bool
}

// modelBrake is a user's count and time.
type modelBrake struct{ count, at int }

// newModel has booted over an empty disk.
func newModel(c api.Config) *model { return resumedModel(c, nil, 0) }

// resumedModel has booted over a disk on which these frames lie.
func resumedModel(c api.Config, frames []modelFrame, now int) *model {
	m := &model{config: c, frames: slices.Clone(frames), now: now}
	m.disk.room = c.DiskBytes
	for _, f := range frames {
		m.disk.data = append(m.disk.data, f.data...)
	}
	m.disk.synced = len(m.disk.data)
	m.boot()
	return m
}

// boot: P20.3.
func (m *model) boot() {
	m.lines = [16]modelLine{}
	for !m.recovered() {
	}
	m.kept = modelKept{}
	for _, f := range m.frames {
		m.kept.apply(f.tx)
	}
	m.brakes = map[string]modelBrake{}
	m.boots++
}

// recovered is one try: the operations of P13.4. Of the frames stay those that lie there whole.
func (m *model) recovered() bool {
	m.disk.dead = false
	if m.disk.dies() { // ReadAll
		return false
	}
	length, count := 0, 0
	for _, f := range m.frames {
		if length+len(f.data) > len(m.disk.data) {
			break
		}
		length, count = length+len(f.data), count+1
	}
	if length < len(m.disk.data) {
		if m.disk.dies() { // Truncate
			return false
		}
		m.disk.data = m.disk.data[:length:length]
		m.disk.synced = min(m.disk.synced, length)
	}
	if m.disk.dies() { // Sync
		return false
	}
	m.disk.synced = length
	m.frames = m.frames[:count:count]
	return true
}

// do plays a step, and answers what goes out for it.
func (m *model) do(step api.Step) []api.Out {
	before := len(m.outs)
	isThere := step.Conn >= 0 && step.Conn < 16
	switch step.Kind {
	case 1:
		if isThere {
			m.bytes(step.Conn, step.Data)
		}
	case 2:
		if step.N > 1<<40-m.now {
			m.now = 1 << 40
		} else if step.N > 0 {
			m.now += step.N
		}
	case 3:
		if len(step.Data) == 32 && len(m.draws) < 1024 {
			m.draws = append(m.draws, step.Data)
		}
	case 4:
		if isThere {
			m.lines[step.Conn] = modelLine{}
		}
	case 5:
		m.disk.fail(step.N)
		m.boot()
	case 6:
		m.disk.arms = append(m.disk.arms, modelArm{max(step.N, 0), step.M})
	}
	m.steps++
	return slices.Clone(m.outs[before:])
}

// bytes: P20.4.
func (m *model) bytes(conn int, data string) {
	line := &m.lines[conn]
	if line.shut {
		return
	}
	line.data += data
	for {
		q, used, number := modelParse(line.data, m.config.HeadMax, m.config.BodyMax)
		if number == 0 {
			return
		}
		r := errorPageOf(number, phrases[number])
		r.close = true
		isBare := false
		if number == 1 {
			line.data = line.data[used:]
			var err error
			if r, err = m.serve(q); err == errModelDead {
				m.boot()
				return
			}
			m.served++
			isBare = q.Method == "HEAD"
		}
		m.outs = append(m.outs, api.Out{Step: m.steps, Conn: conn, Text: r.text(isBare)})
		if r.close {
			*line = modelLine{shut: true}
			return
		}
	}
}

func (m *model) trace() api.Trace {
	return api.Trace{Outs: slices.Clone(m.outs), State: m.kept.state(), Disk: string(m.disk.data), Synced: m.disk.synced, Now: m.now, Boots: m.boots}
}

// What the model's desks refuse.
var (
	errModelDead  = errors.New("dead")
	errModelFull  = errors.New("full")
	errModelDraw  = errors.New("no draw, or one that is known")
	errModelWrong = errors.New("wrong name or password")
	errModelWait  = errors.New("locked")
)

// modelOf plays a script over the model.
func modelOf(c api.Config, script []api.Step) *model {
	m := newModel(c)
	for _, step := range script {
		m.do(step)
	}
	return m
}

// mustBeAsModel fails unless a run gives just what the model says.
func mustBeAsModel(t *testing.T, c api.Config, script []api.Step) api.Trace {
	t.Helper()
	got := mustRun(t, textOf(c), script...)
	want := modelOf(c, script).trace()
	mustBeSame(t, "W1", got, want)
	return got
}
