package apply

import (
	"slices"

	"falsework/api"
)

// What a check finds an entry to be.
const (
	passed  = iota // the check tells no Code
	refused        // it is no one of Dones
	aside          // it is one of Dones, but not its client's last one
	counted        // it is both
)

// verdict is what a check finds, and, unless it passed, the Code.
type verdict struct {
	kind int
	code api.Errno
}

// judge tells the verdict of the first check that has one; without one the entry is counted, and OK.
func judge(checks []func() verdict) verdict {
	found := verdict{kind: counted}
search:
	for _, check := range checks {
		switch v := check(); v.kind {
		case passed:
			continue
		default:
			found = v
			break search
		}
	}
	return found
}

// checks are those of an entry of that time and command (form: what cmd tells of its bytes), in the order in which they count.
func (m *Machine) checks(time int, c api.Command, form api.Errno) []func() verdict {
	return []func() verdict{
		func() verdict { return when(time <= m.time || time >= api.MaxTime, refused, api.ErrArg) },
		func() verdict { return when(form != api.OK, aside, api.ErrForm) },
		func() verdict { return m.again(c) },
		func() verdict { return when(c.Kind == api.CmdNone, aside, api.OK) },
		func() verdict { return when(c.Snap >= time, counted, api.ErrArg) },
		func() verdict { return when(c.Deadline != 0 && time > c.Deadline, counted, api.ErrLate) },
		func() verdict { return when(time < c.After, counted, api.ErrEarly) },
		func() verdict { return when(m.turned(c), counted, api.ErrConflict) },
		func() verdict { return when(m.needs(time, c.Writes) > m.room-m.store.Size(), counted, api.ErrFull) },
	}
}

// when is the verdict where it is so.
func when(so bool, kind int, code api.Errno) verdict {
	if !so {
		return verdict{}
	}
	return verdict{kind: kind, code: code}
}

// again is the verdict on a command whose client had a Seq as great, or greater.
func (m *Machine) again(c api.Command) verdict {
	last, had := m.last[c.Client]
	switch {
	case !had || c.Seq > last.seq:
		return verdict{}
	case c.Seq == last.seq:
		return verdict{kind: aside, code: last.code}
	default:
		return verdict{kind: aside, code: api.ErrTwice}
	}
}

// turned tells whether something that a command read has changed since.
func (m *Machine) turned(c api.Command) bool {
	return slices.ContainsFunc(c.Keys, func(k string) bool { return m.store.Last(k) > c.Snap }) ||
		slices.ContainsFunc(c.Ranges, func(r api.Range) bool { return m.store.Since(r.Lo, r.Hi, c.Snap) })
}

// needs tells how many versions writes at that time would add: no key is written twice, and all versions are of times ahead of it.
func (m *Machine) needs(time int, writes []api.Write) int {
	n := 0
	for _, w := range writes {
		if _, there := m.store.Get(time, w.Key); there || !w.Del {
			n++
		}
	}
	return n
}
