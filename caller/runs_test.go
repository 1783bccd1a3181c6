package caller

import (
	"math/rand"
	"slices"
	"testing"

	"wapentake/api"
	"wapentake/chain"
	"wapentake/memo"
	"wapentake/nest"
	"wapentake/peer"
	"wapentake/proof"
	"wapentake/shard"
	"wapentake/stock"
	"wapentake/table"
)

// ruler is the caller that asks for commands; the others ask for operations.
const ruler = 0

// enough is how many rounds an answer may take; runs were seen that took a hundred.
const enough = 400

// finish has letters come, tick by tick, till all that is open is answered.
func (w *world) finish() {
	w.t.Helper()
	for range enough {
		if w.isAnswered() {
			return
		}
		w.round()
	}
	w.stuck()
}

// settle does so till all shards are where they are to be, besides. What becomes of a shard that is handed over while letters are lost is not the callers' to say.
func (w *world) settle() {
	w.t.Helper()
	for range enough {
		if w.isAnswered() && w.isSettled() {
			return
		}
		w.round()
	}
	w.stuck()
}

func (w *world) stuck() {
	w.t.Helper()
	w.t.Log("the last configuration:", w.controller().Last())
	for end, x := range w.wards {
		p := x.Peer()
		view, in := p.View()
		w.t.Logf("end %d: odd %v, view %d, %v, %d done, %v", end, w.odd[end], view, in, p.Done(), p.Stock().Config())
	}
	for no, c := range w.callers {
		w.t.Logf("caller %d: open %v, %v, %v", no, c.Open(), c.request, c.Config())
	}
	w.t.Fatal("it does not end")
}

// isOneMaps asks of all that was asked and answered whether one map would have told it.
func (w *world) isOneMaps() {
	w.t.Helper()
	if rule, place, err := proof.Check(w.calls, w.points); rule != 0 || err != api.OK {
		w.t.Fatalf("rule %d is broken at %d, %v", rule, place, err)
	}
}

// 23.3, 23.4: all letters come, tick by tick; each command is asked for as soon as the one ahead is answered, so shards move while they are asked for. f replicas of each group are silent, or tell callers, or everybody, what they like.
func TestBelief(t *testing.T) {
	for _, c := range []struct{ f, groups, oddly, runs int }{
		{0, 1, silent, 5}, {0, 3, silent, 20}, {0, 4, silent, 10},
		{1, 2, silent, 10}, {1, 3, silent, 8}, {1, 2, lieToCallers, 10}, {1, 3, lieToCallers, 8}, {1, 3, lieToAll, 5},
		{2, 2, silent, 2}, {2, 2, lieToCallers, 2}, {3, 1, lieToCallers, 1},
	} {
		wrongs := 0
		for chance := range c.runs {
			w := newWorld(t, c.f, c.groups, 3, int64(chance))
			w.haveOdd(c.oddly)
			w.rule(ruler, chain.Command{Kind: chain.Join, Group: 1})
			for range 8 {
				w.ask(1)
				w.ask(2)
				w.finish()
				w.rule(ruler, w.someCommand())
			}
			w.finish()
			w.isOneMaps()
			if w.answers != 9+len(w.calls) || len(w.calls) != 16 || len(w.points) != 16 {
				t.Errorf("%v: %d answers to %d calls with %d points", c, w.answers, len(w.calls), len(w.points))
			}
			if w.configs < 3 || c.oddly != silent && w.lies < 20 {
				t.Errorf("%v: only %d configurations, %d lies", c, w.configs, w.lies)
			}
			wrongs += w.wrongs
		}
		if c.groups > 1 && wrongs == 0 {
			t.Errorf("%v: nobody asked a group that has no more what it was asked for", c)
		}
	}
}

// 23.3: letters are lost, doubled or late, and odd replicas tell everybody what they like. 23.4: then letters come.
func TestRoughBelief(t *testing.T) {
	for _, c := range []struct{ f, groups, oddly, runs int }{
		{0, 2, silent, 20}, {0, 3, silent, 20},
		{1, 2, silent, 8}, {1, 2, lieToAll, 12}, {1, 3, lieToAll, 8},
		{2, 2, lieToAll, 2},
	} {
		for chance := range c.runs {
			w := newWorld(t, c.f, c.groups, 3, int64(chance))
			w.haveOdd(c.oddly)
			w.rule(ruler, chain.Command{Kind: chain.Join, Group: 1})
			w.settle()
			for range 5 {
				w.rule(ruler, w.someCommand())
				for range w.rnd.Intn(12) {
					w.ask(1)
					w.ask(2)
					w.rough()
				}
				w.settle()
			}
			w.isOneMaps()
			if w.answers != 6+len(w.calls) || len(w.calls) < 8 || w.configs < 3 || c.oddly != silent && w.lies < 50 {
				t.Errorf("%v: %d answers to %d calls, %d configurations, %d lies", c, w.answers, len(w.calls), w.configs, w.lies)
			}
		}
	}
}

// The examples 1 and 2 of the whole: k is put, appended to while group 2 joins and has its shard handed over, and read there.
func TestExampleOfTheWhole(t *testing.T) {
	for f := range 3 {
		w := newWorld(t, f, 2, 2, int64(f))
		k := keyOf(0, 0)
		w.rule(ruler, chain.Command{Kind: chain.Join, Group: 1})
		w.askFor(1, table.Op{Kind: table.Put, Key: k, Value: "a"})
		w.finish()
		w.rule(ruler, chain.Command{Kind: chain.Join, Group: 2})
		w.askFor(1, table.Op{Kind: table.Append, Key: k, Value: "b"})
		w.settle()
		w.askFor(1, table.Op{Kind: table.Get, Key: k})
		w.finish()
		if n, a, _ := w.callers[1].Answer(); n != 3 || a != (shard.Answer{Value: "ab"}) {
			t.Errorf("%d: %v", n, a)
		}
		if c := w.callers[1].Config(); c.Num != 2 || c.Owner[0] != 2 {
			t.Error(c)
		}
		w.isOneMaps()
	}
}

// 23.3: what is open stays so while less than f + 1 replicas of each group are to be heard, and is answered when one more is.
func TestNoBeliefOfFew(t *testing.T) {
	for f := 1; f < 4; f++ {
		w := newWorld(t, f, 1, 2, 1)
		w.rule(ruler, chain.Command{Kind: chain.Join, Group: 1})
		w.settle()
		w.ask(1)
		w.rule(ruler, chain.Command{Kind: chain.Join, Group: 1})
		var late []peer.Out
		for range 20 {
			for end := range w.x.Ends() {
				w.tick(end)
			}
			for len(w.letters) > 0 {
				o := w.letters[0]
				w.letters = w.letters[1:]
				m, err := memo.Decode(o.Text)
				if err != api.OK {
					t.Fatal(err)
				}
				if m.Kind == memo.Reply && m.From.No >= f {
					late = append(late, o)
					continue
				}
				w.hear(o)
			}
		}
		if !w.callers[0].Open() || !w.callers[1].Open() || len(w.did) != 3 {
			t.Fatal("f replicas were believed, or it was not done")
		}
		for _, o := range late {
			w.hear(o)
		}
		if !w.isAnswered() {
			t.Error("f + 1 replicas were not believed")
		}
	}
}

// 23.3: a caller that heard nothing for a while comes to have each configuration, one behind the other.
func TestOneThatSlept(t *testing.T) {
	for _, f := range []int{0, 1} {
		w := newWorld(t, f, 4, 2, int64(f))
		sleeper := w.callers[1]
		w.callers[1], _ = New(w.x, 1, seed)
		for group := 1; group <= 4; group++ {
			w.rule(ruler, chain.Command{Kind: chain.Join, Group: group})
			w.settle()
		}
		w.callers[1] = sleeper
		w.ask(1)
		w.configs = 0
		w.finish()
		// It asked for something as soon as anybody owned it, and then whoever the next configurations named.
		if n := sleeper.Config().Num; n != w.configs || n == 0 {
			t.Errorf("%d configurations, but number %d", w.configs, n)
		}
		for range 4 * every {
			w.round()
		}
		if n := sleeper.Config().Num; n != 4 || w.configs != 4 {
			t.Errorf("%d configurations, number %d", w.configs, n)
		}
		w.isOneMaps()
	}
}

// P1: letters that are spoilt, and bytes of all kinds, between those that come: it goes on, and takes nothing of it for an answer.
func TestWhateverItHears(t *testing.T) {
	for chance := range 4 {
		w := newWorld(t, chance%2, 2, 3, int64(chance))
		w.rule(ruler, chain.Command{Kind: chain.Join, Group: 1})
		spoilt := 0
		for rounds := range 60 {
			w.ask(1)
			w.ask(2)
			if rounds == 20 {
				w.finish()
				w.rule(ruler, chain.Command{Kind: chain.Join, Group: 2})
			}
			for end := range w.x.Ends() {
				w.tick(end)
			}
			for len(w.letters) > 0 {
				o := w.letters[0]
				w.letters = w.letters[1:]
				if o.To >= len(w.wards) {
					w.hear(peer.Out{To: o.To, Text: spoil(w.rnd, o.Text)})
					spoilt++
				}
				w.hear(o)
			}
		}
		w.settle()
		w.isOneMaps()
		if spoilt < 60 || w.answers < 10 {
			t.Errorf("%d letters were spoilt, %d answers", spoilt, w.answers)
		}
	}
}

// spoil is a letter with other bytes, fewer, or more.
func spoil(rnd *rand.Rand, text string) string {
	b := []byte(text)
	switch rnd.Intn(3) {
	case 0:
		b = b[:rnd.Intn(len(b))]
	case 1:
		b = append(b, byte(rnd.Intn(256)))
	}
	for range 1 + rnd.Intn(2) {
		if len(b) > 0 {
			b[rnd.Intn(len(b))] ^= byte(1 + rnd.Intn(255))
		}
	}
	return string(b)
}

// P1: even when all replicas say what they like, a caller answers, its configurations come one behind the other, and what it keeps has its bounds.
func TestWhateverIsSigned(t *testing.T) {
	for chance := range 8 {
		rnd := rand.New(rand.NewSource(int64(chance)))
		d := newDesk(t, chance%4)
		answered, num := 0, 0
		for range 3000 {
			if rnd.Intn(2) == 0 {
				d.c.Ask(get)
			} else {
				d.c.Rule(join)
			}
			d.hear(someMemo(t, rnd, d))
			if is := d.c.Config().Num; is != num && is != num+1 {
				t.Fatalf("configuration %d behind %d", is, num)
			}
			num = d.c.Config().Num
			n, _, ok := d.c.Answer()
			if ok != (n > 0) || n < answered || n > d.c.number || d.c.Open() == (n == d.c.number) {
				t.Fatalf("%d is answered behind %d, %d is the last one", n, answered, d.c.number)
			}
			answered = n
			if len(d.c.answers) > d.x.N()*d.x.Groups || d.c.haul.Len() > d.x.N() {
				t.Fatalf("%d answers, %d things", len(d.c.answers), d.c.haul.Len())
			}
			d.c.Tick()
		}
		if answered < 10 || num == 0 {
			t.Errorf("%d answers, %d configurations", answered, num)
		}
	}
}

// someMemo is a Config or a Reply of somebody, mostly one that a caller looks at.
func someMemo(t *testing.T, rnd *rand.Rand, d desk) memo.Memo {
	t.Helper()
	if rnd.Intn(2) == 0 {
		x, _ := chain.Next(d.c.Config(), chain.Command{Kind: chain.Join, Group: min(d.c.Config().Num+1, api.MaxGroups)})
		if rnd.Intn(100) == 0 {
			x = chain.Config{Num: rnd.Intn(6)}
		}
		return signed(t, memo.Memo{Kind: memo.Config, From: api.Party{No: rnd.Intn(d.x.N())}, Text: configText(t, x)})
	}
	text := replyText(max(0, rnd.Intn(5)-2), 0, "", 0)
	if rnd.Intn(4) == 0 {
		text = []string{
			nest.Pack([]string{"0", "9223372036854775807", "v", "-9223372036854775808"}),
			nest.Pack([]string{"0", "9223372036854775808", "v", "0"}),
			nest.Pack(make([]string, rnd.Intn(6))),
			"x",
		}[rnd.Intn(4)]
	}
	return signed(t, memo.Memo{
		Kind:   memo.Reply,
		From:   api.Party{Group: rnd.Intn(5), No: rnd.Intn(d.x.N() + 1)},
		View:   d.no + rnd.Intn(8)/7,
		Number: max(1, d.c.number-rnd.Intn(8)/7),
		Text:   text,
	})
}

// R3, R6: the same letters have the same sent, whatever becomes of what was handed out.
func TestSameLettersTellTheSame(t *testing.T) {
	tell := func(spoilt bool) []peer.Out {
		d := newDesk(t, 1)
		var all []peer.Out
		for i := range 40 {
			switch i {
			case 3, 30:
				d.c.Ask(get)
			case 9:
				d.hearConfigs(first)
			case 15:
				d.reply(1, 0, replyText(stock.Done, 0, "v", 1))
				d.reply(1, 1, replyText(stock.Done, 0, "v", 1))
			case 20:
				d.c.Rule(join)
				d.hearConfigs(second)
			case 25:
				d.reply(0, 3, replyText(stock.Done, 0, "", 1))
				d.reply(0, 2, replyText(stock.Done, 0, "", 1))
			}
			out, groups := d.c.Tick(), d.c.Config().Groups
			all = append(all, out...)
			if spoilt {
				clear(out[:cap(out)])
				clear(groups[:cap(groups)])
			}
		}
		return all
	}
	a, b, c := tell(false), tell(false), tell(true)
	if len(a) < 60 || !slices.Equal(a, b) || !slices.Equal(a, c) {
		t.Errorf("%d, %d and %d letters", len(a), len(b), len(c))
	}
}
