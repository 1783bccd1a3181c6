package peer

import (
	"wapentake/api"
	"wapentake/batch"
	"wapentake/cert"
	"wapentake/chain"
	"wapentake/memo"
	"wapentake/moot"
	"wapentake/order"
	"wapentake/shard"
	"wapentake/stock"
)

// doNext does the next number, if its batch is settled: whether it did.
func (p *Peer) doNext() bool {
	next, ok := p.settled[p.done+1]
	if !ok {
		return false
	}
	delete(p.settled, next.Number)
	p.done = next.Number
	texts, _ := batch.Texts(next.Batch) // of what is no batch none
	for _, text := range texts {
		p.do(text)
	}
	p.set(firstSpan)
	if p.done%every == 0 {
		p.tell(memo.Memo{Kind: memo.Mark, Number: p.done, Text: p.Text()}, p.takeOwnMark)
	}
	return true
}

// do does one text of a batch. One that came to nothing may be asked again, so it is not done in the pool.
func (p *Peer) do(text string) {
	o, err := order.Check(p.ring, p.roster, p.who.Group, text)
	if err != api.OK {
		return
	}
	caller, number := order.Caller(o)
	if p.carryOut(o, text) {
		p.pool.Done(caller, number)
	} else {
		p.pool.Forget(caller, number)
	}
}

// carryOut has what the group holds do an order: whether it came to anything.
func (p *Peer) carryOut(o order.Order, text string) bool {
	switch o.Kind {
	case order.Do:
		met, a, err := p.stock.Do(o.Client, o.Number, o.Op)
		if err != api.OK {
			met = stock.Stale
		}
		p.answer(o, Did{Number: p.done, Text: text, Met: met, Answer: a}, p.stock.Config())
		return met != stock.Wrong
	case order.Rule:
		met := stock.Done
		answer, _, err := p.moot.Do(o.Client, o.Number, o.Command)
		if err != api.OK {
			met = stock.Stale
		}
		p.answer(o, Did{Number: p.done, Text: text, Met: met, Answer: shard.Answer{Err: answer}}, p.moot.Last())
		return true
	case order.Advance:
		c, err := chain.Read(o.Cert.Text)
		return err == api.OK && p.stock.Advance(c) == api.OK
	case order.Install:
		c, err := stock.ReadClaim(o.Cert.Text)
		return err == api.OK && p.stock.Install(c) == api.OK
	case order.Drop:
		c, err := stock.ReadClaim(o.Cert.Text)
		return err == api.OK && p.stock.Drop(c) == api.OK
	}
	return false
}

// answer keeps what was done in the log, and replies to the client.
func (p *Peer) answer(o order.Order, did Did, c chain.Config) {
	p.log = append(p.log, did)
	m := memo.Memo{Kind: memo.Reply, From: p.who, View: o.Client, Number: o.Number, Text: replyText(did, c.Num)}
	m, err := memo.Sign(p.ring, m)
	if err != api.OK {
		return
	}
	p.replies[o.Client] = m
	p.reply(o.Client, m)
}

// takeOwnMark keeps a mark that the peer tells, for fellows that miss it.
func (p *Peer) takeOwnMark(m memo.Memo) {
	p.marked = m
	p.takeMark(m)
}

// takeMark counts what a replica told of a state.
func (p *Peer) takeMark(m memo.Memo) {
	if stable, err := p.marks.Vote(m.From.No, m.Number, m.Text, m.Tag); err == api.OK && stable {
		p.moveUp()
	}
}

// takeStable adopts a stable mark that a replica has.
func (p *Peer) takeStable(m memo.Memo) {
	if c, err := cert.Decode(m.Text); err == api.OK {
		p.adopt(c)
	}
}

// adopt has a certificate be the stable mark, if it is one of enough replicas, and beyond what is stable.
func (p *Peer) adopt(c cert.Cert) {
	if cert.Check(p.ring, c, p.roster.N(), p.roster.Need()) != api.OK {
		return
	}
	if stable, err := p.marks.Adopt(c); err == api.OK && stable {
		p.moveUp()
	}
}

// moveUp has the window begin behind the new stable mark, and the peer, if it lags behind, go on from there.
func (p *Peer) moveUp() {
	number, state, _ := p.marks.Stable()
	p.window.Raise(number)
	if p.done >= number {
		return
	}
	p.load(state)
	p.done = number
	for settled := range p.settled {
		if settled <= number {
			delete(p.settled, settled)
		}
	}
	p.emptyPool()
}

// load has the group's state be that of a text, if it is one.
func (p *Peer) load(state string) {
	if p.moot != nil {
		if m, err := moot.Load(state); err == api.OK {
			p.moot = m
		}
		return
	}
	if s, err := stock.Load(p.who.Group, state); err == api.OK {
		p.stock = s
	}
}

// emptyPool lets all requests go that wait. What the peer did itself stays done there: it has replied to that.
func (p *Peer) emptyPool() {
	for p.pool.Len() > 0 {
		for _, r := range p.pool.Take() {
			p.pool.Forget(r.Caller, r.Number)
		}
	}
}
