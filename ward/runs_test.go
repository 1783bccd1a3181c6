package ward

import (
	"math/rand"
	"slices"
	"testing"

	"wapentake/api"
	"wapentake/chain"
	"wapentake/memo"
	"wapentake/order"
	"wapentake/peer"
	"wapentake/shard"
	"wapentake/stock"
	"wapentake/table"
)

// isSettled tells whether all replicas that do as told have the last configuration, and each shard is just where that has it.
func (w *world) isSettled() bool {
	last := w.controller().Last()
	for end := w.x.N(); end < len(w.wards); end++ {
		if w.odd[end] {
			continue
		}
		s := w.wards[end].Peer().Stock()
		if s.Config().Num != last.Num {
			return false
		}
		for i, owner := range last.Owner {
			want := shard.Absent
			if owner == end/w.x.N() {
				want = shard.Serving
			}
			if s.Status(i) != want {
				return false
			}
		}
	}
	return true
}

func (w *world) isAnswered() bool {
	return !slices.ContainsFunc(w.open, func(o order.Order) bool { return o.Kind != 0 })
}

// calm has all letters come, tick by tick, till there is a configuration, all shards are where it has them, and all clients are answered: how many rounds that takes.
func (w *world) calm(num int) int {
	w.t.Helper()
	for rounds := range 1000 {
		if rounds%every == 0 {
			w.again()
		}
		if rounds%(2*every) == 0 {
			w.busy()
		}
		w.round()
		if w.controller().Last().Num >= num && w.isSettled() && w.isAnswered() {
			return rounds
		}
	}
	w.t.Log("the last configuration:", w.controller().Last())
	for end, x := range w.wards {
		p := x.Peer()
		view, in := p.View()
		w.t.Logf("end %d: odd %v, view %d, %v, %d done, %v", end, w.odd[end], view, in, p.Done(), p.Stock().Config())
	}
	w.t.Fatal("it does not go on")
	return 0
}

// 22.2: one move behind the other, each with letters that are lost, doubled or late, and with f odd replicas in each group; once letters come, each shard is where it is to be. What is served, and with what, is held against one map behind each step.
func TestHandedOver(t *testing.T) {
	for _, c := range []struct{ f, groups, runs int }{{0, 2, 20}, {0, 3, 20}, {1, 2, 15}, {1, 3, 15}, {2, 2, 1}} {
		equal, lies := 0, 0
		for chance := range c.runs {
			w := newWorld(t, c.f, c.groups, int64(chance))
			w.haveOdd()
			w.rule(chain.Command{Kind: chain.Join, Group: 1})
			w.calm(1)
			for num := 2; num <= 6; num++ {
				w.someAsk()
				w.rule(w.rightCommand())
				for range w.rnd.Intn(12) {
					w.rough()
					if w.rnd.Intn(3) == 0 {
						w.someAsk()
						w.again()
					}
				}
				w.calm(num)
			}
			equal, lies = equal+w.equal, lies+w.lies
		}
		if equal < 2*c.runs || c.f > 0 && lies < 20*c.runs {
			t.Errorf("%v: only %d moves were seen, %d lies", c, equal, lies)
		}
	}
}

// 22.2 with nobody who asks: the two groups of a move, whose replicas all do as told, whatever is lost at first.
func TestHandedOverUnasked(t *testing.T) {
	for chance := range 20 {
		w := newWorld(t, chance%2, 2, int64(chance))
		w.rule(chain.Command{Kind: chain.Join, Group: 1})
		w.calm(1)
		w.rule(chain.Command{Kind: chain.Join, Group: 2})
		for range w.rnd.Intn(8) {
			w.rough()
		}
		w.again()
		for range 60 {
			w.round()
		}
		if !w.isSettled() || w.controller().Last().Num != 2 {
			t.Errorf("%d: not handed over", chance)
		}
	}
}

// 22.2: configurations that come faster than shards are handed over, with f replicas of each group that are silent.
func TestManyConfigurations(t *testing.T) {
	for _, c := range []struct{ f, groups, runs int }{{0, 3, 6}, {0, 4, 6}, {1, 3, 4}, {1, 4, 2}} {
		equal := 0
		for chance := range c.runs {
			w := newWorld(t, c.f, c.groups, int64(chance))
			w.haveOdd()
			w.rule(chain.Command{Kind: chain.Join, Group: 1})
			w.calm(1)
			for num := 2; num <= 12; num++ {
				w.rule(w.rightCommand())
				w.someAsk()
				for rounds := 0; w.controller().Last().Num < num; rounds++ {
					if rounds%every == 0 {
						w.again()
					}
					w.round()
				}
			}
			if w.isSettled() {
				t.Error("it was not fast")
			}
			w.calm(12)
			equal += w.equal
		}
		if equal < 2*c.runs {
			t.Errorf("%v: only %d moves were seen", c, equal)
		}
	}
}

// 22.2: one replica of each group sleeps while shards are handed over; it comes to have what its fellows have.
func TestOneThatSlept(t *testing.T) {
	for sleeper := range 4 {
		w := newWorld(t, 1, 2, int64(sleeper))
		w.rule(chain.Command{Kind: chain.Join, Group: 1})
		w.calm(1)
		for group := range 3 {
			w.odd[group*w.x.N()+sleeper] = true
		}
		for num := 2; num <= 4; num++ {
			w.someAsk()
			w.rule(w.rightCommand())
			w.calm(num)
		}
		for end := range w.wards {
			if w.odd[end] && end >= w.x.N() && w.wards[end].Peer().Stock().Config().Num != 1 {
				t.Fatal("it did not sleep")
			}
			w.odd[end] = false
		}
		w.calm(4)
		for end := w.x.N(); end < len(w.wards); end++ {
			if p, fellow := w.wards[end].Peer(), w.wards[end-end%w.x.N()].Peer(); p.Done() == fellow.Done() && p.Text() != fellow.Text() {
				t.Errorf("end %d has %q, not %q", end, p.Text(), fellow.Text())
			}
		}
	}
}

// A controller's odd replica tells a configuration of its own, an odd one of the former group another content, and one that nobody froze: nobody has it.
func TestLiesOfOne(t *testing.T) {
	w := newWorld(t, 1, 2, 1)
	for group := range 3 {
		w.odd[group*4+group] = true
	}
	w.rule(chain.Command{Kind: chain.Join, Group: 1})
	w.calm(1)
	for range 8 {
		w.someAsk()
		w.again()
		w.round()
	}
	w.calm(1)
	tell := func(group int, kind int, text string) {
		b := signed(t, memo.Memo{Kind: kind, From: api.Party{Group: group, No: group}, Text: text})
		for end := range w.wards {
			w.letters = append(w.letters, peer.Out{To: end, Text: b})
		}
	}
	lie := chain.Config{Num: 2, Groups: []int{1, 2}, Owner: [api.Shards]int{1, 2, 2, 1}}
	for rounds := range 80 {
		if rounds == 20 {
			w.rule(chain.Command{Kind: chain.Join, Group: 2})
		}
		tell(0, memo.Config, configText(t, lie))
		for i := range api.Shards {
			tell(1, memo.Claim, claimText(t, stock.Claim{Num: 2, Shard: i, Content: "0:,"}))
			tell(2, memo.Claim, claimText(t, stock.Claim{Took: true, Num: 2, Shard: i}))
		}
		w.round()
	}
	if !w.isSettled() || w.controller().Last().Owner != second.Owner || w.equal == 0 {
		t.Error("it is not as the controller's has it")
	}
}

// 22.3, P1: letters that are spoilt, and bytes of all kinds, between those that all come; each that is no memo is counted, and it goes on.
func TestWhateverItHears(t *testing.T) {
	for run := range 4 {
		rnd := rand.New(rand.NewSource(int64(run)))
		w := newWorld(t, run%2, 2, int64(run))
		var seen []string
		w.rule(chain.Command{Kind: chain.Join, Group: 1})
		for rounds := range 60 {
			if rounds == 30 {
				w.rule(chain.Command{Kind: chain.Join, Group: 2})
			}
			for _, o := range w.letters {
				seen = append(seen, o.Text)
			}
			w.round()
			for end := range w.wards {
				w.tick(end)
				b := []byte(seen[rnd.Intn(len(seen))])
				for range rnd.Intn(3) {
					b[rnd.Intn(len(b))] = byte(rnd.Intn(256))
				}
				m, err := memo.Decode(string(b))
				isMemo := err == api.OK && memo.Verify(ring(t), m) == api.OK
				was := w.wards[end].Rejects()
				w.hear(peer.Out{To: end, Text: string(b)})
				if isMemo != (w.wards[end].Rejects() == was) || w.wards[end].Rejects() != w.wards[end].Peer().Rejects() {
					t.Fatalf("%q: %d rejects behind %d", b, w.wards[end].Rejects(), was)
				}
			}
			for _, o := range w.letters {
				seen = append(seen, o.Text)
			}
		}
		w.calm(2)
	}
}

// 22.3, P1: even when everybody's tags are there, whatever they say, a ward answers, and what it keeps has its bounds.
func TestWhateverIsSigned(t *testing.T) {
	for chance := range 4 {
		w := newWorld(t, 1, 2, int64(chance))
		w.rule(chain.Command{Kind: chain.Join, Group: 1})
		w.calm(1)
		for end := range w.wards {
			w.odd[end] = end != 0
		}
		w.looked[0] = 0
		for range 60 {
			for end := range w.wards {
				w.lie(end)
			}
			w.rough()
			w.letters = w.letters[:min(len(w.letters), 300)]
		}
		for end, x := range w.wards {
			if n := x.haul.Len(); n == 0 || n > 4+2*4*2*api.Shards {
				t.Errorf("end %d: %d things", end, n)
			}
			x.Tick()
			x.Hear("x")
		}
	}
}

// Example 1, letter by letter.
func TestExample(t *testing.T) {
	w := newWorld(t, 0, 1, 1)
	w.rule(chain.Command{Kind: chain.Join, Group: 1})
	w.hear(w.letters[0])
	w.letters = nil
	if w.controller().Last().Num != 1 || !w.isAnswered() {
		t.Fatal("it is not ruled")
	}
	kinds := func() []int {
		var l []int
		for _, o := range w.letters {
			m, err := memo.Decode(o.Text)
			if err != api.OK {
				t.Fatal(err)
			}
			l = append(l, m.Kind)
		}
		return l
	}
	for range every {
		w.tick(1)
	}
	if l := kinds(); !slices.Equal(l, []int{memo.Want}) || w.letters[0].To != 0 {
		t.Fatal(l)
	}
	w.hear(w.letters[0])
	w.letters = w.letters[1:]
	if l := kinds(); !slices.Equal(l, []int{memo.Config}) || w.letters[0].To != 1 {
		t.Fatal(l)
	}
	w.hear(w.letters[0])
	w.letters = nil
	for range every {
		w.tick(1)
	}
	s := w.wards[1].Peer().Stock()
	for i := range api.Shards {
		if s.Status(i) != shard.Serving || s.Config().Num != 1 {
			t.Errorf("shard %d is %d", i, s.Status(i))
		}
	}
}

// R3, R6: the same letters have the same said, whatever becomes of the answers.
func TestSameLettersTellTheSame(t *testing.T) {
	tell := func(spoil bool) []peer.Out {
		var all []peer.Out
		x := newDesk(t, 1, 1, 0).x
		var l []*Ward
		for _, who := range []api.Party{{Group: 0, No: 1}, {Group: 1, No: 0}, {Group: 2, No: 3}} {
			w, err := New(x, who, seed)
			if err != api.OK {
				t.Fatal(err)
			}
			l = append(l, w)
		}
		keep := func(out []peer.Out) {
			all = append(all, out...)
			if spoil {
				clear(out)
				clear(out[:cap(out)])
			}
		}
		o := order.Order{Kind: order.Do, Client: 1, Number: 1, Op: table.Op{Kind: table.Put, Key: "k"}}
		for range 3 {
			for _, w := range l {
				for no := range 3 {
					keep(w.Hear(signed(t, memo.Memo{Kind: memo.Config, From: api.Party{No: no}, Text: configText(t, first)})))
				}
				keep(w.Hear(askOf(t, o)))
				keep(w.Hear(askOf(t, order.Order{Kind: order.Rule, Number: 1, Command: chain.Command{Kind: chain.Join, Group: 1}})))
				for range every {
					keep(w.Tick())
				}
			}
		}
		return all
	}
	a, b, c := tell(false), tell(false), tell(true)
	if len(a) < 40 || !slices.Equal(a, b) || !slices.Equal(a, c) {
		t.Errorf("%d, %d and %d letters", len(a), len(b), len(c))
	}
}
