package shire

import (
	"math"
	"reflect"
	"strings"
	"testing"

	"wapentake/api"
	"wapentake/chain"
	"wapentake/memo"
	"wapentake/nest"
	"wapentake/roster"
	"wapentake/shard"
	"wapentake/table"
)

// someStep is one choice, or some lies: most letters come, the older ones sooner, some late, twice or never.
func (w *world) someStep() {
	w.t.Helper()
	n := w.s.Letters()
	switch k := w.rnd.Intn(60); {
	case k == 0:
		w.step(w.someOp(w.rnd.Intn(w.x.Clients)))
	case k == 1 && w.rnd.Intn(4) == 0:
		w.step(w.someCommand(w.rnd.Intn(w.x.Clients)))
	case k < 4 && n > 0:
		w.step(api.Choice{Kind: api.DoLose + w.rnd.Intn(2), N: w.rnd.Intn(n)})
	case k < 6 && w.oddly == lie:
		w.tellLies(1 + w.rnd.Intn(4))
	case k < 6+8>>w.x.F || n == 0: // the more replicas, the more letters there are between two ticks
		w.step(tick(w.rnd.Intn(w.x.Ends())))
	case k < 18:
		w.deliver(w.rnd.Intn(n))
	default:
		w.deliver(w.rnd.Intn(min(4, n)))
	}
}

// 25.2, 25.3, 25.4: long scripts, with all that odd replicas may send; each step keeps one server.
func TestOneMap(t *testing.T) {
	for _, c := range []struct{ f, groups, oddly, runs, steps int }{
		{0, 2, asTold, 10, 4000}, {0, 4, asTold, 10, 6000},
		{1, 2, asTold, 3, 8000}, {1, 3, silent, 4, 8000}, {1, 2, lie, 6, 10000}, {1, 4, lie, 4, 30000},
		{2, 2, silent, 1, 30000}, {2, 2, lie, 1, 60000},
	} {
		answers, rulings, moves, lies := 0, 0, 0, 0
		for chance := range c.runs {
			w := newWorld(t, roster.Roster{F: c.f, Groups: c.groups, Clients: 3}, c.oddly, int64(chance))
			w.step(join(0, 1+w.rnd.Intn(c.groups)))
			for n := range c.steps {
				w.someStep()
				if n%1000 == 0 {
					w.isOneMap()
					w.isOneChain()
				}
			}
			w.isOneMap()
			w.isOneChain()
			for _, x := range w.s.Calls() {
				if x.To >= 0 {
					answers++
				}
			}
			rulings, moves, lies = rulings+len(w.s.Rulings()), moves+w.moves(), lies+w.lies
		}
		if answers < 3*c.runs || rulings < 2*c.runs || moves < c.runs || c.oddly == lie && lies < 100*c.runs {
			t.Errorf("%v: only %d answers, %d rulings, %d moves, %d lies", c, answers, rulings, moves, lies)
		}
	}
}

// moves is how often a shard was seen to be served by another group than by the last configuration in which it was.
func (w *world) moves() int {
	n := 0
	for k := range api.Shards {
		last := 0
		for num := range 100 {
			if group, ok := w.served[configured{num, k}]; ok {
				if last != 0 && last != group {
					n++
				}
				last = group
			}
		}
	}
	return n
}

// rough is a script of at most 60 choices, with at most 120 rounds, in which group 1 joins.
func (w *world) rough(rules int) {
	w.t.Helper()
	w.rounds(2 + w.rnd.Intn(3))
	w.step(join(w.rnd.Intn(w.x.Clients), 1))
	w.rounds(20)
	left := 96
	for n := 57; n > 0; n-- {
		switch k := w.rnd.Intn(20); {
		case k < 4:
			w.step(w.someOp(w.rnd.Intn(w.x.Clients)))
		case k < 4+rules:
			w.step(w.someCommand(w.rnd.Intn(w.x.Clients)))
		case k < 9:
			w.step(tick(w.rnd.Intn(w.x.Ends())))
		case k < 13 && w.s.Letters() > 0:
			w.step(api.Choice{Kind: api.DoDeliver + w.rnd.Intn(3), N: w.rnd.Intn(w.s.Letters())})
		case k < 17 && w.oddly == lie:
			n += 1 - w.tellLies(min(n, 1+w.rnd.Intn(6)))
		default:
			k := min(left, 1+w.rnd.Intn(8))
			left -= k
			w.rounds(k)
		}
	}
}

// rounds has so many rounds go by.
func (w *world) rounds(n int) {
	w.t.Helper()
	if n > 0 && w.oddly != silent {
		w.step(round(n))
		return
	}
	for range n {
		w.round()
	}
}

// 25.5: whatever odd replicas did, and whether they are silent or not, once letters come all is answered.
func TestGoesOn(t *testing.T) {
	for _, c := range []struct{ f, groups, oddly, runs int }{
		{0, 2, asTold, 30}, {0, 4, asTold, 30}, {1, 2, asTold, 10}, {1, 3, silent, 10}, {1, 2, lie, 40}, {1, 4, lie, 40}, {2, 3, lie, 5},
	} {
		open, moves, lies := 0, 0, 0
		for chance := range c.runs {
			w := newWorld(t, roster.Roster{F: c.f, Groups: c.groups, Clients: 3}, c.oddly, int64(chance))
			w.rough(1 + chance%4)
			if !w.isAnswered() {
				open++
			}
			if chance%2 == 0 {
				w.oddly = silent // from here on
			}
			w.finish(5000)
			w.isOneMap()
			w.isOneChain()
			moves, lies = moves+w.moves(), lies+w.lies
		}
		if open < c.runs/5 || moves < c.runs/2 || c.oddly == lie && lies < 10*c.runs {
			t.Errorf("%v: only %d were open, %d moves, %d lies", c, open, moves, lies)
		}
	}
}

// 25.5: all of a group's odd replicas are silent from the beginning on, whichever they are: the first view's primary, too.
func TestSilentOnes(t *testing.T) {
	for no := range 4 {
		w := &world{t: t, x: usual, oddly: silent, served: map[configured]int{}}
		for group := range 3 {
			w.odds = append(w.odds, group*4+no)
		}
		w.s = shireOf(t, usual, []int{1 << no, 1 << no, 1 << no})
		l := []api.Choice{join(0, 1), put(0, "k", "a"), join(1, 2), {Kind: api.DoAsk, N: 0, What: table.Append, Key: "k", Value: "b"}, {Kind: api.DoRule, N: 1, What: chain.Leave, Group: 1}, get(0, "k")}
		for _, c := range l {
			if !w.step(c) {
				t.Errorf("Step(%v)", c)
			}
			w.finish(5000)
		}
		if l := w.s.Calls(); len(l) != 3 || l[2].Answer != (shard.Answer{Value: "ab"}) {
			t.Errorf("%v", l)
		}
		w.isOneMap()
		w.isOneChain()
		for _, end := range w.odds {
			if w.s.Ward(end).Peer().Done() == 0 {
				t.Error("what is silent does not hear")
			}
		}
	}
}

// 25.6, R6: the same choices do the same, moment by moment.
func TestSameAgain(t *testing.T) {
	for chance := range 3 {
		x := roster.Roster{F: 1, Groups: 2 + chance%2, Clients: 3}
		w := newWorld(t, x, lie, int64(chance))
		w.step(join(0, 1))
		for range 2000 {
			w.someStep()
		}
		w.rough(2)
		for range 2 {
			s := shireOf(t, x, w.s.odd)
			for _, c := range w.choices {
				s.Step(c)
			}
			if !reflect.DeepEqual(state(s), state(w.s)) || s.Now() == 0 {
				t.Errorf("%d: the same choices do something else", chance)
			}
		}
	}
}

// P1: whatever is chosen, Step ends, and tells whether the moment went on; what is promised of the rest holds.
func TestWhateverIsChosen(t *testing.T) {
	for chance := range 6 {
		w := newWorld(t, roster.Roster{F: chance % 3, Groups: 1 + chance%4, Clients: 2}, asTold, int64(chance))
		for range 1500 {
			c := w.someChoice()
			now := w.s.Now()
			if is := w.step(c); is != (w.s.Now() > now) {
				t.Errorf("Step(%v) tells %v, moment %d behind %d", c, is, w.s.Now(), now)
			}
		}
		w.isOneMap()
		w.isOneChain()
	}
}

// someChoice is of any fields, most of them small.
func (w *world) someChoice() api.Choice {
	c := api.Choice{
		Kind: w.someNumber(10), End: w.someNumber(w.x.Ends()), N: w.someNumber(w.x.Ends()),
		What: w.someNumber(13), Group: w.someNumber(5), Shard: w.someNumber(4),
		View: w.someNumber(3), Number: w.someNumber(6),
		Key: w.someText(), Value: w.someText(), Old: w.someText(), Text: w.someText(),
	}
	if c.Kind == api.DoRound {
		c.N = min(c.N, 3)
	}
	if c.Kind == api.DoSign && c.What > memo.Status && c.What < memo.Want {
		c.View, c.Number = w.rnd.Intn(2), 1
	}
	return c
}

func (w *world) someNumber(most int) int {
	if w.rnd.Intn(40) > 0 {
		return w.rnd.Intn(most)
	}
	l := []int{-1, most, math.MinInt, math.MaxInt, api.MaxBig, api.MaxBig + 1, 1 << 31, 64, -64}
	return l[w.rnd.Intn(len(l))]
}

func (w *world) someText() string {
	switch w.rnd.Intn(5) {
	case 0:
		return "k"
	case 1:
		return nest.Pack([]string{"9", nest.Pack([]string{"0", "1"}), "1", "2", "", ""})
	case 2:
		return strings.Repeat("v", w.rnd.Intn(70))
	}
	return ""
}
