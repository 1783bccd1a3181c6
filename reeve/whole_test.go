package reeve

import (
	"math/rand"
	"slices"
	"strings"
	"testing"

	"wapentake/api"
	"wapentake/batch"
	"wapentake/chain"
	"wapentake/memo"
	"wapentake/nest"
	"wapentake/peer"
	"wapentake/plea"
	"wapentake/proof"
	"wapentake/roster"
	"wapentake/shift"
	"wapentake/shire"
	"wapentake/stock"
	"wapentake/table"
	"wapentake/tale"
)

// whole is a script that is made while it is played, with what replicas and clients had meanwhile.
type whole struct {
	t    *testing.T
	rnd  *rand.Rand
	tale tale.Script
	s    *shire.Shire
	odds []int // the ends of odd replicas
	seen []chain.Config
	lies int
}

func newWhole(t *testing.T, x roster.Roster, chance int64) *whole {
	t.Helper()
	w := &whole{t: t, rnd: rand.New(rand.NewSource(chance)), tale: tale.Script{X: x, Seed: "whole"}}
	for group := range x.Groups + 1 {
		odd := 0
		for _, no := range w.rnd.Perm(x.N())[:x.F] {
			odd |= 1 << no
			w.odds = append(w.odds, group*x.N()+no)
		}
		w.tale.Odd = append(w.tale.Odd, odd)
	}
	s, err := shire.New(x, w.tale.Seed, w.tale.Odd)
	if err != api.OK {
		t.Fatal(err)
	}
	w.s = s
	return w
}

func (w *whole) step(c api.Choice) {
	if w.s.Step(c) {
		w.tale.L = append(w.tale.L, c)
	}
	for _, p := range w.peers() {
		w.see(p.Stock().Config())
		w.see(p.Moot().Last())
	}
	for no := range w.tale.X.Clients {
		w.see(w.s.Caller(no).Config())
	}
}

// see keeps a configuration, if it is none that was seen.
func (w *whole) see(c chain.Config) {
	if !slices.ContainsFunc(w.seen, func(x chain.Config) bool { return isSame([]chain.Config{x}, []chain.Config{c}) }) {
		w.seen = append(w.seen, c)
	}
}

// peers are all replicas that are not odd.
func (w *whole) peers() []*peer.Peer {
	var l []*peer.Peer
	for end := range w.tale.X.Ends() - w.tale.X.Clients {
		if !slices.Contains(w.odds, end) {
			l = append(l, w.s.Ward(end).Peer())
		}
	}
	return l
}

func (w *whole) round(n int) { w.step(api.Choice{Kind: api.DoRound, N: n}) }

// play is a script in which groups join and leave, shards move, letters are lost, and odd replicas lie.
func (w *whole) play(size int) {
	first := 1 + w.rnd.Intn(w.tale.X.Groups)
	w.step(api.Choice{Kind: api.DoRule, What: chain.Join, Group: first})
	w.round(20)
	for len(w.tale.L) < size {
		n := w.s.Letters()
		switch k := w.rnd.Intn(20); {
		case k < 5:
			w.step(w.someOp())
		case k < 7:
			w.step(w.someCommand())
		case k < 9 && n > 0:
			w.step(api.Choice{Kind: api.DoDeliver + w.rnd.Intn(3), N: w.rnd.Intn(n)})
		case k < 15 && len(w.odds) > 0:
			w.step(w.someLie(w.odds[w.rnd.Intn(len(w.odds))]))
			w.lies++
		case k < 17:
			w.step(api.Choice{Kind: api.DoTick, End: w.rnd.Intn(w.tale.X.Ends())})
		default:
			w.round(1 + w.rnd.Intn(8))
		}
	}
}

func (w *whole) someOp() api.Choice {
	c := api.Choice{Kind: api.DoAsk, N: w.rnd.Intn(w.tale.X.Clients), What: table.Get + w.rnd.Intn(table.Swap), Key: "k" + nest.Num(w.rnd.Intn(9))}
	switch c.What {
	case table.Swap:
		c.Old = strings.Repeat("v", w.rnd.Intn(3))
		fallthrough
	case table.Put, table.Append:
		c.Value = strings.Repeat("v", w.rnd.Intn(3))
	}
	return c
}

func (w *whole) someCommand() api.Choice {
	c := api.Choice{Kind: api.DoRule, N: w.rnd.Intn(w.tale.X.Clients), What: 1 + w.rnd.Intn(chain.Move), Group: 1 + w.rnd.Intn(w.tale.X.Groups)}
	if c.What == chain.Move {
		c.Shard = w.rnd.Intn(api.Shards)
	}
	return c
}

// someLie is something that an odd replica signs, or bytes that it makes up.
func (w *whole) someLie(from int) api.Choice {
	p, config := w.s.Ward(from).Peer(), w.s.Caller(0).Config()
	view, _ := p.View()
	next := p.Done() + 1
	coming, _ := chain.Next(config, chain.Command{Kind: chain.Join, Group: 1 + w.rnd.Intn(w.tale.X.Groups)})
	text, _ := chain.Text(coming)
	claim, _ := stock.ClaimText(stock.Claim{Num: config.Num, Shard: w.rnd.Intn(api.Shards), Content: "0:,0:,"})
	took, _ := stock.ClaimText(stock.Claim{Took: true, Num: config.Num, Shard: w.rnd.Intn(api.Shards)})
	change, _ := shift.Encode(shift.Change{View: view + 1})
	no := w.rnd.Intn(w.tale.X.Clients)
	l := []api.Choice{
		{What: memo.Order, View: view, Number: next, Text: batch.Text(nil)},
		{What: memo.Order, View: view, Number: next, Text: "x"},
		{What: memo.Settle, View: view, Number: next, Text: batch.Text(nil)},
		{What: memo.Mark, Number: (next + 3) / 4 * 4, Text: "x"},
		{What: memo.Status, View: max(0, view-1), Number: max(0, next-4)},
		{What: memo.Change, View: view + 1, Text: change},
		{What: memo.Config, Text: text},
		{What: memo.Claim, Text: claim},
		{What: memo.Claim, Text: took},
		{What: memo.Reply, View: no, Number: w.asked(no), Text: nest.Pack([]string{"0", "0", "lie", nest.Num(config.Num)})},
		{Kind: api.DoForge, Text: "2:no,"},
	}
	c := l[w.rnd.Intn(len(l))]
	c.End, c.N = from, w.rnd.Intn(w.tale.X.Ends())
	if c.Kind == 0 {
		c.Kind = api.DoSign
	}
	if c.What == memo.Reply {
		c.N = w.tale.X.Ends() - w.tale.X.Clients + no
	}
	return c
}

// asked is the number of a client's last call.
func (w *whole) asked(no int) int {
	number := 1
	for _, c := range w.s.Calls() {
		if c.Client == no {
			number = c.Number
		}
	}
	return number
}

// finish has all letters come, till all is answered: P6.
func (w *whole) finish() {
	w.t.Helper()
	for range 5000 {
		open := false
		for no := range w.tale.X.Clients {
			open = open || w.s.Caller(no).Open()
		}
		if !open {
			return
		}
		w.round(1)
	}
	w.t.Fatalf("it does not go on: %v", w.tale)
}

// isKept wants plea and reeve to tell that no rule is broken: P2, P4.
func (w *whole) isKept() {
	w.t.Helper()
	parts, err := plea.Split(w.s.Calls(), w.s.Points())
	if err != api.OK {
		w.t.Fatal(err)
	}
	if place, rule, err := plea.Check(parts); place != 0 || rule != 0 || err != api.OK {
		w.t.Fatalf("part %d, rule %d, %v: %v", place, rule, err, parts)
	}
	wantCheck(w.t, "the whole", w.s.Rulings(), w.seen, 0, 0)
	isAsPromised(w.t, w.s.Rulings())
}

// isOneOrder is P3: replicas of one group did the same, number by number, and what did as much has the same state.
func (w *whole) isOneOrder() {
	w.t.Helper()
	type place struct{ group, number int }
	did, states := map[place][]peer.Did{}, map[place]string{}
	size := w.tale.X.N() - w.tale.X.F
	for i, p := range w.peers() {
		here := map[place][]peer.Did{}
		for _, d := range p.Log() {
			at := place{i / size, d.Number}
			here[at] = append(here[at], d)
		}
		for at, l := range here {
			if other, ok := did[at]; ok && !slices.Equal(other, l) {
				w.t.Errorf("group %d did %v and %v", at.group, other, l)
			}
			did[at] = l
		}
		at := place{i / size, p.Done()}
		if other, ok := states[at]; ok && other != p.Text() {
			w.t.Errorf("group %d has two states behind number %d", at.group, at.number)
		}
		states[at] = p.Text()
	}
}

// isTold wants the script's text to tell the same of it.
func (w *whole) isTold(calls, points, rulings int) {
	w.t.Helper()
	text, err := tale.Format(w.tale)
	if err != api.OK {
		w.t.Fatal(err)
	}
	lines, _, err := tale.Tell(text)
	if len(lines) != calls+points+rulings+1 || err != api.OK || lines[len(lines)-1] != nest.Pack([]string{"map", "0"}) {
		w.t.Errorf("%v, %v, of %d, %d, %d", lines, err, calls, points, rulings)
	}
}

// P2 to P6, 27.3, 28.3, 28.4: scripts of several groups, with odd replicas, played whole.
func TestWhole(t *testing.T) {
	for _, c := range []struct{ f, groups, runs int }{{0, 2, 12}, {0, 4, 12}, {1, 2, 6}, {1, 3, 6}, {1, 4, 4}, {2, 2, 2}} {
		answers, rulings, moved, lies := 0, 0, 0, 0
		for chance := range c.runs {
			w := newWhole(t, roster.Roster{F: c.f, Groups: c.groups, Clients: 3}, int64(chance))
			w.play(200)
			w.isKept()
			w.isOneOrder()
			w.isTold(len(w.s.Calls()), len(w.s.Points()), len(w.s.Rulings()))
			w.finish()
			w.isKept()
			w.isOneOrder()
			calls := w.s.Calls()
			if l := plea.Open(calls); len(l) != 0 {
				t.Errorf("%v are open", l)
			}
			if place, n := plea.Longest(calls, w.s.Now()); n == 0 || n != calls[place].To-calls[place].From {
				t.Errorf("%d took %d", place, n)
			}
			moves, _ := Moves(chainOf(t, w.s.Rulings()))
			for _, n := range moves {
				moved += n
			}
			answers, rulings, lies = answers+len(calls), rulings+len(w.s.Rulings()), lies+w.lies
		}
		if answers < 10*c.runs || rulings < 4*c.runs || moved < c.runs || c.f > 0 && lies < 20*c.runs {
			t.Errorf("%v: only %d answers, %d rulings, %d moves, %d lies", c, answers, rulings, moved, lies)
		}
	}
}

// What clients, or replicas, of such a script can't have seen is told.
func TestWholeSpoilt(t *testing.T) {
	for chance := range 3 {
		w := newWhole(t, roster.Roster{F: 1, Groups: 2, Clients: 3}, int64(chance))
		w.play(100)
		w.finish()
		calls, points, rulings := w.s.Calls(), w.s.Points(), w.s.Rulings()
		for i := range calls {
			spoilt := slices.Clone(calls)
			spoilt[i].Answer.Value += "!"
			wantBroken(t, spoilt, points, stock.Place(calls[i].Op.Key), 4)
		}
		for i, p := range points {
			k := slices.IndexFunc(calls, func(c proof.Call) bool { return c.Client == p.Client && c.Number == p.Number })
			wantBroken(t, calls, slices.Delete(slices.Clone(points), i, i+1), stock.Place(calls[k].Op.Key), 3)
		}
		for i := range rulings {
			spoilt := slices.Clone(rulings)
			spoilt[i].Err = api.ErrState
			wantCheck(t, "spoilt", spoilt, w.seen, 1, i)
		}
		for i := range w.seen {
			spoilt := slices.Clone(w.seen)
			spoilt[i].Num += len(w.seen)
			wantCheck(t, "spoilt", rulings, spoilt, 2, i)
		}
	}
}

func wantBroken(t *testing.T, calls []proof.Call, points []proof.Point, place, rule int) {
	t.Helper()
	parts, _ := plea.Split(calls, points)
	if p, r, err := plea.Check(parts); p != place || r != rule || err != api.OK {
		t.Errorf("%d, %d, %v, not %d, %d", p, r, err, place, rule)
	}
}
