package peer

import (
	"wapentake/api"
	"wapentake/batch"
	"wapentake/memo"
	"wapentake/nest"
	"wapentake/order"
	"wapentake/shift"
	"wapentake/slot"
)

// takeAsk puts what is asked into the pool, or tells again what was answered.
func (p *Peer) takeAsk(m memo.Memo) {
	o, err := order.Check(p.ring, p.roster, p.who.Group, m.Text)
	if err != api.OK {
		return
	}
	caller, number := order.Caller(o)
	if number > p.pool.Last(caller) {
		p.pool.Add(batch.Request{Caller: caller, Number: number, Text: m.Text})
		return
	}
	// What groups order of their own is not replied to.
	if o.Kind != order.Do && o.Kind != order.Rule {
		return
	}
	if last := p.replies[o.Client]; last.Number == number {
		p.reply(o.Client, last)
	}
}

// propose has the primary propose the next number: whether it did.
func (p *Peer) propose() bool {
	next := p.done + 1
	if !p.in || !p.isPrimary(p.who.No) || p.done < p.planned() || p.pool.Len() == 0 {
		return false
	}
	s, err := p.window.At(p.view, next)
	if err != api.OK || p.voted(s, slot.Order) {
		return false
	}
	text := batch.Text(p.pool.Take())
	return p.tell(memo.Memo{Kind: memo.Order, View: p.view, Number: next, Text: text}, p.takeOrder)
}

// takeOrder counts a vote to order a batch, and has the peer vote as far as it may.
func (p *Peer) takeOrder(m memo.Memo) {
	s, ok := p.count(slot.Order, m)
	if !ok {
		return
	}
	if p.isProposal(s, m) && !p.voted(s, slot.Order) && p.mayBe(m.Number, m.Text) {
		p.tell(memo.Memo{Kind: memo.Order, View: m.View, Number: m.Number, Text: m.Text}, p.takeOrder)
	}
	c, ok := s.Cert(slot.Order)
	if !ok || p.voted(s, slot.Settle) {
		return
	}
	p.window.Note(m.View, m.Number, c)
	p.tell(memo.Memo{Kind: memo.Settle, View: m.View, Number: m.Number, Text: batchOf(c.Text)}, p.takeSettle)
}

// takeSettle counts a vote to settle a batch, which is settled when enough have told it.
func (p *Peer) takeSettle(m memo.Memo) {
	s, ok := p.count(slot.Settle, m)
	if !ok || m.Number <= p.done {
		return
	}
	if c, ok := s.Cert(slot.Settle); ok {
		p.settled[m.Number] = shift.Fill{Number: m.Number, Batch: batchOf(c.Text)}
	}
}

// count counts a vote, and is the slot of its number; there is none, if it is not of the view that the peer is in, or not of the window.
func (p *Peer) count(kind int, m memo.Memo) (*slot.Slot, bool) {
	if !p.in || m.View != p.view {
		return nil, false
	}
	s, err := p.window.At(m.View, m.Number)
	if err != api.OK {
		return nil, false
	}
	text, err := memo.Said(m)
	if err != api.OK {
		return nil, false
	}
	_, err = s.Vote(kind, m.From.No, text, m.Tag)
	return s, err == api.OK
}

// isProposal tells whether a memo is what the primary proposed, of which its first word counts alone.
func (p *Peer) isProposal(s *slot.Slot, m memo.Memo) bool {
	text, ok := s.Proposal()
	return ok && p.isPrimary(m.From.No) && batchOf(text) == m.Text
}

// voted tells whether the peer itself voted.
func (p *Peer) voted(s *slot.Slot, kind int) bool {
	_, _, ok := s.Own(kind, p.who.No)
	return ok
}

// mayBe tells whether a batch may be ordered as that number: of the plan's numbers just the plan's.
func (p *Peer) mayBe(number int, text string) bool {
	for _, fill := range p.plan {
		if fill.Number == number {
			return fill.Batch == text
		}
	}
	texts, err := batch.Texts(text)
	if err != api.OK {
		return false
	}
	for _, t := range texts {
		if _, err := order.Check(p.ring, p.roster, p.who.Group, t); err != api.OK {
			return false
		}
	}
	return true
}

// planned is the plan's greatest number; 0, if it has none.
func (p *Peer) planned() int {
	if len(p.plan) == 0 {
		return 0
	}
	return p.plan[len(p.plan)-1].Number
}

// batchOf is the batch of an order's, or a settlement's text.
func batchOf(text string) string {
	said, _ := shift.Read(text) // it was made by shift
	return said.Batch
}

// reply sends a client what it was answered.
func (p *Peer) reply(client int, m memo.Memo) {
	if to, err := p.roster.End(api.Party{Group: clients, No: client}); err == api.OK {
		p.send(m, to)
	}
}

// replyText is what a Reply tells.
func replyText(did Did, num int) string {
	return nest.Pack([]string{nest.Num(did.Met), nest.Num(int(did.Answer.Err)), did.Answer.Value, nest.Num(num)})
}
