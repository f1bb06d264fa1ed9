package run

import (
	"staithe/api"
	"staithe/clock"
	"staithe/crew"
	"staithe/loom"
	"staithe/remap"
	"staithe/report"
	"staithe/retire"
	"staithe/stamp"
)

// bench is a script that is run, with its instruments. The loom's trace keeps all their rules, so but for want of room no
// instrument has an error to tell.
type bench struct {
	loom    *loom.Loom
	stamper *stamp.Stamper
	table   *remap.Table
	report  *report.Report
	events  []api.Event
	stamps  []stamp.Stamp
}

func newBench(s api.Script) (*bench, api.Errno) {
	l, errno := loom.New(s)
	if errno != api.OK {
		return nil, errno
	}
	stamper, errno := stamp.New(s.T, s.M)
	if errno != api.OK {
		return nil, errno
	}
	return &bench{loom: l, stamper: stamper, table: remap.New(), report: report.New()}, api.OK
}

// follow does all steps, up to one that saturates: the verdict. Only a step's first event spawns or tells, so nothing of a
// step that saturates was noted ahead of it.
func (b *bench) follow() int {
	verdict := 0
steps:
	for verdict == 0 {
		for _, e := range b.loom.Step() {
			if b.note(e) != api.OK {
				verdict = api.Saturated
				break steps
			}
		}
		verdict = b.loom.Verdict()
	}
	return verdict
}

// note has an event be in the trace, with its stamp; or it answers that there is no room for it, and nothing is done.
func (b *bench) note(e api.Event) api.Errno {
	known, errno := b.stamper.Note(e)
	if errno != api.OK {
		return errno
	}
	at := len(b.events)
	b.events = append(b.events, e)
	b.stamps = append(b.stamps, known)
	access := report.Access{At: at, G: e.G, Cell: e.Value}
	switch e.Kind {
	case api.EvSpawn:
		tid, _ := b.stamper.Watch().Tid(e.Mate)
		b.table.Born(e.Mate, tid, at)
	case api.EvWrite:
		access.Write = true
		fallthrough
	case api.EvRead:
		c, _ := clock.Of(known.Clock)
		b.report.Put(access, known.Epoch, c)
	case api.EvCompact:
		b.compact(at)
	}
	return api.OK
}

// compact retires those that exited and of whom nobody can learn more. Who is settled is asked of copies, so one that is
// retired changes nothing for the next.
func (b *bench) compact(at int) {
	exited, living := b.parted()
	held := b.stamper.Held()
	for _, g := range exited {
		tid, _ := b.stamper.Watch().Tid(g)
		cut, ok := retire.Of(tid, living, held)
		if !ok {
			continue
		}
		b.stamper.Retire(g)
		b.report.Retire(tid, cut)
		b.table.Gone(g, at, cut)
	}
}

// parted are, of those that have a tid, the ids of those that exited, and the clocks of all others.
func (b *bench) parted() ([]int, []*clock.Clock) {
	var exited []int
	var living []*clock.Clock
	watch := b.stamper.Watch()
	for _, g := range watch.All() {
		if state, _ := b.loom.State(g); state == crew.Exited {
			exited = append(exited, g)
			continue
		}
		c, _ := watch.Clock(g)
		living = append(living, c)
	}
	return exited, living
}
