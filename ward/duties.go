package ward

import (
	"wapentake/api"
	"wapentake/cert"
	"wapentake/haul"
	"wapentake/memo"
	"wapentake/order"
	"wapentake/peer"
	"wapentake/shard"
	"wapentake/stock"
)

// duties are what a group of shards' ward does for others, as long as its configuration is the one that it began with: what it orders may be done at once.
func (w *Ward) duties() []peer.Out {
	if w.who.Group == controller {
		return nil
	}
	k := w.number()
	out := w.seek(k)
	for i := range api.Shards {
		for _, duty := range []func(k, i int) []peer.Out{w.handOver, w.takeOver, w.tellTook} {
			if w.number() == k {
				out = append(out, duty(k, i)...)
			}
		}
	}
	return out
}

// seek asks for the configuration behind that of k, and goes on to it, once all shards are where they are to be.
func (w *Ward) seek(k int) []peer.Out {
	if !w.isSettled() {
		return nil
	}
	out := w.letters(memo.Memo{Kind: memo.Want, Number: k + 1}, w.roster.Group(controller)...)
	if c, ok := w.haul.Cert(haul.Rule, 0, k+1); ok {
		out = append(out, w.order(order.Advance, c)...)
	}
	return out
}

// handOver claims what a shard was when it was frozen, and drops it, once its owner has it.
func (w *Ward) handOver(k, i int) []peer.Out {
	claim, ok := w.peer.Stock().Hand(i)
	if !ok {
		return nil
	}
	owner := w.peer.Stock().Config().Owner[i]
	out := w.claim(claim, w.roster.Group(owner))
	if c, ok := w.haul.Cert(haul.Took, i, k); ok {
		out = append(out, w.order(order.Drop, c)...)
	}
	return out
}

// takeOver installs a shard that enough replicas of its former owner claim.
func (w *Ward) takeOver(k, i int) []peer.Out {
	if !w.has(i, shard.Pulling) {
		return nil
	}
	c, ok := w.haul.Cert(haul.Hand, i, k)
	if !ok {
		return nil
	}
	return w.order(order.Install, c)
}

// tellTook tells other groups that a shard is served here.
func (w *Ward) tellTook(k, i int) []peer.Out {
	if !w.has(i, shard.Serving) {
		return nil
	}
	return w.claim(stock.Claim{Took: true, Num: k, Shard: i}, w.otherGroups())
}

// claim are the letters with which a claim goes to some ends.
func (w *Ward) claim(c stock.Claim, ends []int) []peer.Out {
	text, err := stock.ClaimText(c)
	if err != api.OK {
		return nil
	}
	return w.letters(memo.Memo{Kind: memo.Claim, Text: text}, ends...)
}

// order has the group order something of its own: all fellows are asked for it, and the ward itself.
func (w *Ward) order(kind int, c cert.Cert) []peer.Out {
	text, err := order.Text(w.ring, order.Order{Kind: kind, Cert: c})
	if err != api.OK {
		return nil
	}
	m := memo.Memo{Kind: memo.Ask, From: w.who, Text: text}
	b, err := memo.Encode(m)
	if err != api.OK {
		return nil
	}
	return append(w.letters(m, w.roster.Others(w.who)...), w.Hear(b)...)
}

// number is that of the stock's configuration.
func (w *Ward) number() int {
	return w.peer.Stock().Config().Num
}

// has tells whether a shard has a status.
func (w *Ward) has(i, status int) bool {
	return w.peer.Stock().Status(i) == status
}

// isSettled tells whether no shard is on its way.
func (w *Ward) isSettled() bool {
	for i := range api.Shards {
		if w.has(i, shard.Pulling) || w.has(i, shard.Frozen) {
			return false
		}
	}
	return true
}
