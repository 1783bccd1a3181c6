package shire

import (
	"wapentake/api"
	"wapentake/bag"
	"wapentake/chain"
	"wapentake/memo"
	"wapentake/peer"
	"wapentake/table"
)

const mostRounds = 50

// Step does a choice: whether it did something. What does nothing is no step, so it leaves the moment, too.
func (s *Shire) Step(c api.Choice) bool {
	if s.isNone() {
		return false
	}
	switch c.Kind {
	case api.DoAsk:
		return s.ask(c.N, table.Op{Kind: c.What, Key: c.Key, Value: c.Value, Old: c.Old})
	case api.DoRule:
		return s.rule(c.N, chain.Command{Kind: c.What, Group: c.Group, Shard: c.Shard})
	case api.DoTick:
		return s.tick(c.End)
	case api.DoDeliver:
		return s.deliver(c.N)
	case api.DoLose:
		return s.lose(c.N)
	case api.DoAgain:
		return s.again(c.N)
	case api.DoForge:
		return s.forge(c.End, c.N, c.Text)
	case api.DoSign:
		return s.sign(c.End, c.N, memo.Memo{Kind: c.What, View: c.View, Number: c.Number, Text: c.Text})
	case api.DoRound:
		return s.rounds(c.N)
	}
	return false
}

func (s *Shire) ask(no int, o table.Op) bool {
	number, err := s.Caller(no).Ask(o) // a nil one refuses
	if err != api.OK {
		return false
	}
	s.now++
	s.keepCall(no, number, o)
	return true
}

func (s *Shire) rule(no int, x chain.Command) bool {
	if _, err := s.Caller(no).Rule(x); err != api.OK {
		return false
	}
	s.now++
	return true
}

func (s *Shire) tick(end int) bool {
	if !s.isEnd(end) {
		return false
	}
	s.now++
	s.send(end, s.ends[end].tick())
	return true
}

func (s *Shire) deliver(i int) bool {
	x, err := s.letters.Pick(i)
	if err != api.OK {
		return false
	}
	s.now++
	s.send(x.To, s.ends[x.To].hear(x.Text))
	return true
}

func (s *Shire) lose(i int) bool {
	if _, err := s.letters.Pick(i); err != api.OK {
		return false
	}
	s.now++
	return true
}

// again is something also where the bag is full: the letter was on its way, and what is sent then is lost.
func (s *Shire) again(i int) bool {
	if s.letters.Copy(i) == api.ErrNone {
		return false
	}
	s.now++
	return true
}

func (s *Shire) forge(from, to int, text string) bool {
	if !s.isOdd(from) || !s.isEnd(to) || len(text) > api.MaxWire {
		return false
	}
	s.now++
	s.send(from, []peer.Out{{To: to, Text: text}})
	return true
}

func (s *Shire) sign(from, to int, m memo.Memo) bool {
	m.From, _ = s.roster.Party(from)
	m, _ = memo.Sign(s.ring, m) // what can't be signed comes out as no memo
	b, err := memo.Encode(m)
	return err == api.OK && s.forge(from, to, b)
}

// rounds has all ends tick, and all letters be delivered, so many times. Each tick and each delivery is a step.
func (s *Shire) rounds(n int) bool {
	if n < 1 || n > mostRounds {
		return false
	}
	for range n {
		for end := range s.ends {
			s.tick(end)
		}
		for s.letters.Len() > 0 {
			s.deliver(0)
		}
	}
	return true
}

// send puts letters on their way. What the bag has no room for is lost.
func (s *Shire) send(from int, out []peer.Out) {
	for _, o := range out {
		s.letters.Put(bag.Item{From: from, To: o.To, Since: s.now, Text: o.Text})
	}
}
