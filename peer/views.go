package peer

import (
	"wapentake/api"
	"wapentake/bell"
	"wapentake/cert"
	"wapentake/memo"
	"wapentake/nest"
	"wapentake/shift"
	"wapentake/slot"
	"wapentake/window"
)

const (
	patience  = 0 // the timer's name
	firstSpan = 16
)

// set sets the timer.
func (p *Peer) set(span int) {
	p.span = span
	p.bell.Set(patience, span)
}

// wait sets the timer when there is something to wait for, and takes it away when there is nothing. What it was put off by stays, so that a replica that is ahead of its fellows' views is found by them.
func (p *Peer) wait() {
	if !p.isWaiting() {
		p.bell.Off(patience)
	} else if _, ok := p.bell.Due(patience); !ok {
		p.set(max(p.span, firstSpan))
	}
}

// isWaiting tells whether something is in the pool, or somebody voted for a number that is not done.
func (p *Peer) isWaiting() bool {
	if p.pool.Len() > 0 {
		return true
	}
	for number := max(p.done, p.window.Low()) + 1; p.window.Has(number); number++ {
		s, err := p.window.At(p.entered, number)
		if err == api.OK && s.Votes(slot.Order)+s.Votes(slot.Settle) > 0 {
			return true
		}
	}
	return false
}

// leave leaves for a view.
func (p *Peer) leave(view int) {
	if view > api.MaxBig {
		return
	}
	p.view, p.in = view, false
	p.set(min(max(2*p.span, firstSpan), bell.MaxSpan))
	if text, err := shift.Encode(p.change()); err == api.OK {
		p.tell(memo.Memo{Kind: memo.Change, View: view, Text: text}, p.takeChange)
	}
}

// change is what the peer tells when it leaves for its view.
func (p *Peer) change() shift.Change {
	low, _, c := p.marks.Stable()
	x := shift.Change{View: p.view, Low: low, Mark: c}
	for number := low + 1; number <= low+window.Size; number++ {
		if view, c, ok := p.window.Best(number); ok {
			x.Bests = append(x.Bests, shift.Best{Number: number, View: view, Cert: c})
		}
	}
	return x
}

// takeChange keeps a replica's change, and has the peer follow, or begin its view.
func (p *Peer) takeChange(m memo.Memo) {
	// The peer's own last one is that of its view: an older one that comes back is none.
	if m.From == p.who && m.View != p.view {
		return
	}
	if _, ok := p.changeOf(m); !ok {
		return
	}
	p.changes[m.From.No] = m
	p.follow()
	p.beginView()
}

// changeOf is the change that a memo tells, if it is right.
func (p *Peer) changeOf(m memo.Memo) (shift.Change, bool) {
	c, err := shift.Decode(m.Text)
	if err != api.OK || c.View != m.View || shift.Check(p.ring, p.who.Group, p.roster.F, c) != api.OK {
		return shift.Change{}, false
	}
	return c, true
}

// follow leaves for the least of the views beyond the peer's to which others changed, if one of these others at least does as told.
func (p *Peer) follow() {
	count, least := 0, 0
	for no, m := range p.changes {
		if no == p.who.No || m.View <= p.view {
			continue
		}
		if count == 0 || m.View < least {
			least = m.View
		}
		count++
	}
	if count >= p.roster.Some() {
		p.leave(least)
	}
}

// beginView has the primary begin its view, once enough have changed to it.
func (p *Peer) beginView() {
	if p.in || !p.isPrimary(p.who.No) {
		return
	}
	var l []string
	for _, m := range p.changes {
		if m.View != p.view || len(l) == p.roster.Need() {
			continue
		}
		if b, err := memo.Encode(m); err == api.OK {
			l = append(l, b)
		}
	}
	if len(l) == p.roster.Need() {
		p.tell(memo.Memo{Kind: memo.Begin, View: p.view, Text: nest.Pack(l)}, p.takeBegin)
	}
}

// takeBegin enters a view.
func (p *Peer) takeBegin(m memo.Memo) {
	if m.View < p.view || m.View == p.view && p.in {
		return
	}
	changes, ok := p.changesOf(m)
	if !ok {
		return
	}
	low, fills := shift.Plan(changes)
	p.place = place{view: m.View, in: true, entered: m.View, begin: m, plan: fills}
	p.window.Leave(m.View)
	if stable, _, _ := p.marks.Stable(); low > stable {
		p.adopt(markOf(changes, low))
	}
	p.set(firstSpan)
	if !p.isPrimary(p.who.No) {
		return
	}
	for _, fill := range fills {
		p.tell(memo.Memo{Kind: memo.Order, View: m.View, Number: fill.Number, Text: fill.Batch}, p.takeOrder)
	}
}

// changesOf are the changes with which a view begins, if they are right, and enough.
func (p *Peer) changesOf(m memo.Memo) ([]shift.Change, bool) {
	l, err := nest.Unpack(m.Text)
	if err != api.OK || len(l) != p.roster.Need() {
		return nil, false
	}
	var changes []shift.Change
	last := -1
	for _, b := range l {
		x, ok := p.open(b)
		if !ok || x.Kind != memo.Change || x.View != m.View || !p.isOurs(x.From) || x.From.No <= last {
			return nil, false
		}
		c, ok := p.changeOf(x)
		if !ok {
			return nil, false
		}
		changes = append(changes, c)
		last = x.From.No
	}
	return changes, true
}

// markOf is the mark of the first change that has that low number.
func markOf(changes []shift.Change, low int) cert.Cert {
	for _, c := range changes {
		if c.Low == low {
			return c.Mark
		}
	}
	return cert.Cert{}
}

// takeStatus sends a fellow what it may have missed.
func (p *Peer) takeStatus(m memo.Memo) {
	to, err := p.roster.End(m.From)
	if err != api.OK || m.From == p.who {
		return
	}
	if !p.in {
		p.send(p.changes[p.who.No], to)
	} else if m.View < p.view {
		p.send(p.begin, to)
	}
	if stable, _, c := p.marks.Stable(); m.Number < stable {
		b, _ := cert.Encode(c) // it was made of votes, or checked
		p.send(memo.Memo{Kind: memo.Stable, From: p.who, Text: b}, to)
	}
	p.sendVotes(to, m.Number)
	p.send(p.marked, to)
}

// sendVotes sends a fellow what the peer voted in its view for numbers beyond one.
func (p *Peer) sendVotes(to, beyond int) {
	if !p.in {
		return
	}
	for number := max(beyond, p.window.Low()) + 1; p.window.Has(number); number++ {
		p.sendVote(to, number, slot.Order, memo.Order)
		p.sendVote(to, number, slot.Settle, memo.Settle)
	}
}

// sendVote sends a fellow what the peer voted for a number, if it did, as a memo of the kind told.
func (p *Peer) sendVote(to, number, kind, told int) {
	s, err := p.window.At(p.view, number)
	if err != api.OK {
		return
	}
	if text, tag, ok := s.Own(kind, p.who.No); ok {
		p.send(memo.Memo{Kind: told, From: p.who, View: p.view, Number: number, Text: batchOf(text), Tag: tag}, to)
	}
}
