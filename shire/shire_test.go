package shire

import (
	"math"
	"reflect"
	"slices"
	"strings"
	"testing"

	"wapentake/api"
	"wapentake/bag"
	"wapentake/caller"
	"wapentake/chain"
	"wapentake/memo"
	"wapentake/nest"
	"wapentake/order"
	"wapentake/peer"
	"wapentake/proof"
	"wapentake/roster"
	"wapentake/seal"
	"wapentake/shard"
	"wapentake/stock"
	"wapentake/table"
	"wapentake/ward"
)

var (
	small = roster.Roster{F: 0, Groups: 2, Clients: 2} // ends 0 to 2, and 3, 4
	usual = roster.Roster{F: 1, Groups: 2, Clients: 2} // ends 0 to 11, and 12, 13
)

// oddOnes of the usual roster: ends 1, 4 and 11.
func oddOnes() []int { return []int{2, 1, 8} }

// 25.1, New.

func TestNew(t *testing.T) {
	long := strings.Repeat("s", 33)
	great := roster.Roster{F: 3, Groups: 4, Clients: 8}
	for i, c := range []struct {
		x    roster.Roster
		seed string
		odd  []int
		want api.Errno
	}{
		{small, "", []int{0, 0, 0}, api.OK},
		{small, long[:32], []int{0, 0, 0}, api.OK},
		{usual, seed, oddOnes(), api.OK},
		{usual, seed, []int{8, 4, 1}, api.OK},
		{great, seed, []int{7, 1<<9 | 1<<8 | 1<<7, 0, 1 << 9, 1<<5 | 1}, api.OK},
		{roster.Roster{}, seed, []int{0}, api.ErrArg},
		{roster.Roster{F: -1, Groups: 1, Clients: 1}, seed, []int{0, 0}, api.ErrArg},
		{roster.Roster{F: 4, Groups: 1, Clients: 1}, seed, []int{0, 0}, api.ErrArg},
		{roster.Roster{Groups: 0, Clients: 1}, seed, []int{0}, api.ErrArg},
		{roster.Roster{Groups: 5, Clients: 1}, seed, make([]int, 6), api.ErrArg},
		{roster.Roster{Groups: -1, Clients: 1}, seed, nil, api.ErrArg},
		{roster.Roster{Groups: math.MaxInt, Clients: 1}, seed, nil, api.ErrArg},
		{roster.Roster{Groups: 1, Clients: 0}, seed, []int{0, 0}, api.ErrArg},
		{roster.Roster{Groups: 1, Clients: 9}, seed, []int{0, 0}, api.ErrArg},
		{roster.Roster{Groups: 1, Clients: math.MinInt}, seed, []int{0, 0}, api.ErrArg},
		{small, seed, nil, api.ErrArg},
		{small, seed, []int{0, 0}, api.ErrArg},
		{small, seed, []int{0, 0, 0, 0}, api.ErrArg},
		{small, seed, []int{1, 0, 0}, api.ErrArg},
		{usual, seed, []int{-1, 0, 0}, api.ErrArg},
		{usual, seed, []int{0, math.MinInt, 0}, api.ErrArg},
		{usual, seed, []int{0, 16, 0}, api.ErrArg},
		{usual, seed, []int{0, 0, 3}, api.ErrArg},
		{usual, seed, []int{0, 0, 9}, api.ErrArg},
		{usual, seed, []int{0, 0, math.MaxInt}, api.ErrArg},
		{usual, seed, []int{0, 0, 1 << 62}, api.ErrArg},
		{great, seed, []int{0, 0, 1 << 10, 0, 0}, api.ErrArg},
		{great, seed, []int{0, 0, 15, 0, 0}, api.ErrArg},
		{usual, long, oddOnes(), api.ErrLong},
		{roster.Roster{}, long, []int{0}, api.ErrArg},
		{usual, long, []int{0, 0}, api.ErrArg},
		{usual, long, []int{0, 0, 16}, api.ErrArg},
	} {
		if s, err := New(c.x, c.seed, c.odd); err != c.want || (s != nil) != (err == api.OK) {
			t.Errorf("%d: %v, %v, not %v", i, s, err, c.want)
		}
	}
}

func TestNothingHappened(t *testing.T) {
	s := shireOf(t, usual, oddOnes())
	if s.Now() != 0 || s.Letters() != 0 || len(s.Calls()) != 0 || len(s.Points()) != 0 || len(s.Rulings()) != 0 {
		t.Error("something did")
	}
	for end := range usual.Ends() {
		w := s.Ward(end)
		if end >= 12 {
			if w != nil {
				t.Errorf("end %d is a client's", end)
			}
			continue
		}
		who, _ := usual.Party(end)
		fresh, _ := ward.New(usual, who, seed)
		if w == nil || w.Peer().Text() != fresh.Peer().Text() || !reflect.DeepEqual(w, fresh) || w != s.Ward(end) {
			t.Errorf("end %d has another ward", end)
		}
	}
	for no := range 2 {
		fresh, _ := caller.New(usual, no, seed)
		if c := s.Caller(no); !reflect.DeepEqual(c, fresh) || c != s.Caller(no) {
			t.Errorf("client %d has another caller", no)
		}
	}
	for _, i := range []int{-1, 12, 13, 14, math.MinInt, math.MaxInt} {
		if s.Ward(i) != nil || i != 0 && s.Caller(i) != nil {
			t.Errorf("there is a ward, or a caller, %d", i)
		}
	}
	if s.Caller(2) != nil {
		t.Error("there is a caller 2")
	}
}

// A nil shire, and one that New did not make, do nothing.
func TestNilShire(t *testing.T) {
	for _, s := range []*Shire{nil, {}} {
		for kind := -1; kind < 12; kind++ {
			for _, n := range []int{0, 1} {
				c := api.Choice{Kind: kind, N: n, What: 1, Group: 1, Key: "k", Text: "x"}
				if s.Step(c) {
					t.Errorf("Step(%v)", c)
				}
			}
		}
		if s.Calls() != nil || s.Points() != nil || s.Rulings() != nil || s.Ward(0) != nil || s.Caller(0) != nil || s.Now() != 0 || s.Letters() != 0 {
			t.Error("it has something")
		}
	}
}

// 25.1, Step, choice by choice.

func put(no int, key, value string) api.Choice {
	return api.Choice{Kind: api.DoAsk, N: no, What: table.Put, Key: key, Value: value}
}

func get(no int, key string) api.Choice {
	return api.Choice{Kind: api.DoAsk, N: no, What: table.Get, Key: key}
}

func join(no, group int) api.Choice {
	return api.Choice{Kind: api.DoRule, N: no, What: chain.Join, Group: group}
}

func tick(end int) api.Choice { return api.Choice{Kind: api.DoTick, End: end} }

func round(n int) api.Choice { return api.Choice{Kind: api.DoRound, N: n} }

func forge(end, to int, text string) api.Choice {
	return api.Choice{Kind: api.DoForge, End: end, N: to, Text: text}
}

func sign(end, to int, m memo.Memo) api.Choice {
	return api.Choice{Kind: api.DoSign, End: end, N: to, What: m.Kind, View: m.View, Number: m.Number, Text: m.Text}
}

// does has a choice do something: a step more, and no more letters than it should be.
func does(t *testing.T, s *Shire, c api.Choice, more int) {
	t.Helper()
	now, letters := s.Now(), s.Letters()
	if !s.Step(c) || s.Now() != now+1 || s.Letters() != letters+more {
		t.Errorf("Step(%v): moment %d behind %d, %d letters behind %d", c, s.Now(), now, s.Letters(), letters)
	}
}

// state is all that a later call could tell.
func state(s *Shire) []any {
	l := []any{s.Now(), slices.Clone(s.Calls()), slices.Clone(s.Points()), slices.Clone(s.Rulings()), letters(s)}
	for i := range s.wards {
		w := s.Ward(i)
		view, in := w.Peer().View()
		l = append(l, view, in, w.Rejects(), w.Peer().Done(), w.Peer().Text(), w.Peer().Log())
	}
	for no := range s.callers {
		c := s.Caller(no)
		number, a, ok := c.Answer()
		l = append(l, number, a, ok, c.Open(), c.Config())
	}
	return l
}

func letters(s *Shire) []bag.Item {
	var l []bag.Item
	for i := range s.Letters() {
		x, _ := s.letters.See(i)
		l = append(l, x)
	}
	return l
}

// doesNothing has choices that are none.
func doesNothing(t *testing.T, s *Shire, l ...api.Choice) {
	t.Helper()
	was := state(s)
	for _, c := range l {
		if s.Step(c) || !reflect.DeepEqual(state(s), was) {
			t.Errorf("Step(%v) does something", c)
			was = state(s)
		}
	}
}

func TestAsk(t *testing.T) {
	s := shireOf(t, small, []int{0, 0, 0})
	long := strings.Repeat("x", 65)
	doesNothing(t, s, put(-1, "k", "v"), put(2, "k", "v"), put(math.MinInt, "k", "v"), put(math.MaxInt, "k", "v"), put(0, "", "v"), put(0, long[:17], "v"), put(0, "k", long),
		api.Choice{Kind: api.DoAsk, Key: "k"}, api.Choice{Kind: api.DoAsk, What: table.Swap + 1, Key: "k"}, api.Choice{Kind: api.DoAsk, What: -1, Key: "k"},
		api.Choice{Kind: api.DoAsk, What: table.Get, Key: "k", Value: "v"}, api.Choice{Kind: api.DoAsk, What: table.Put, Key: "k", Old: "v"})
	does(t, s, tick(0), 0)
	// What a choice of this kind does not name is nothing to it.
	swap := api.Choice{Kind: api.DoAsk, N: 1, What: table.Swap, Key: "k", Value: "v", Old: "o", End: -1, Group: 9, Shard: 9, View: -5, Number: 7, Text: "x"}
	does(t, s, swap, 0)
	doesNothing(t, s, swap, put(1, "k", "v"), join(1, 1))
	does(t, s, put(0, "l", "w"), 0)
	want := []proof.Call{
		{Client: 1, Number: 1, Op: table.Op{Kind: table.Swap, Key: "k", Value: "v", Old: "o"}, From: 2, To: -1},
		{Client: 0, Number: 1, Op: table.Op{Kind: table.Put, Key: "l", Value: "w"}, From: 3, To: -1},
	}
	if l := s.Calls(); !reflect.DeepEqual(l, want) || !s.Caller(0).Open() || !s.Caller(1).Open() {
		t.Errorf("%v, not %v", l, want)
	}
}

func TestRule(t *testing.T) {
	s := shireOf(t, small, []int{0, 0, 0})
	doesNothing(t, s, join(-1, 1), join(2, 1), join(math.MaxInt, 1), join(math.MinInt, 1), api.Choice{Kind: api.DoRule, Group: 1}, api.Choice{Kind: api.DoRule, What: chain.Move + 1, Group: 1}, api.Choice{Kind: api.DoRule, What: -1, Group: 1})
	does(t, s, api.Choice{Kind: api.DoRule, N: 1, What: chain.Join, Group: 1, End: -1, View: 3, Number: 3, Key: "k", Value: "v", Old: "o", Text: "x"}, 0)
	doesNothing(t, s, join(1, 1), put(1, "k", "v"))
	s.Step(round(8))
	does(t, s, api.Choice{Kind: api.DoRule, N: 0, What: chain.Leave, Group: 2}, 0)
	s.Step(round(8))
	does(t, s, join(0, 2), 0)
	s.Step(round(8))
	does(t, s, api.Choice{Kind: api.DoRule, N: 1, What: chain.Move, Group: 1, Shard: s.shardOf(2)}, 0)
	s.Step(round(8))
	want := []Ruling{
		{Client: 1, Number: 1, Command: chain.Command{Kind: chain.Join, Group: 1}},
		{Client: 0, Number: 1, Command: chain.Command{Kind: chain.Leave, Group: 2}, Err: api.ErrGroup},
		{Client: 0, Number: 2, Command: chain.Command{Kind: chain.Join, Group: 2}},
		{Client: 1, Number: 2, Command: chain.Command{Kind: chain.Move, Group: 1, Shard: 1}},
	}
	if l := s.Rulings(); !reflect.DeepEqual(l, want) {
		t.Errorf("%v, not %v", l, want)
	}
	if len(s.Calls()) != 0 || len(s.Points()) != 0 {
		t.Error("a command is a call")
	}
}

// shardOf is the last shard that a group has by the first caller's configuration.
func (s *Shire) shardOf(group int) int {
	owner := s.Caller(0).Config().Owner
	for i := api.Shards - 1; i > 0; i-- {
		if owner[i] == group {
			return i
		}
	}
	return 0
}

func TestTick(t *testing.T) {
	s := shireOf(t, usual, oddOnes())
	doesNothing(t, s, tick(-1), tick(14), tick(math.MinInt), tick(math.MaxInt))
	want := map[int]int{12: 4, 13: 4} // what ends send at every fourth tick: clients want what is next
	for end := range 12 {
		want[end] = 3 // the status, to all fellows
		if end >= 4 {
			want[end] += 4
		}
	}
	for n := 1; n <= 8; n++ {
		for end := range usual.Ends() {
			more := 0
			if n%4 == 0 {
				more = want[end]
			}
			does(t, s, tick(end), more)
			for _, x := range letters(s)[s.Letters()-more:] {
				if x.From != end || x.Since != s.Now() {
					t.Errorf("from %d, %d, not %d, %d", x.From, x.Since, end, s.Now())
				}
			}
		}
	}
	does(t, s, put(1, "k", "v"), 0)
	does(t, s, tick(13), 4) // the next tick is a fourth one; nobody has the key's shard
}

// The letter that is delivered is the one of its number; the end hears it, and what that sends waits behind all others.
func TestDeliver(t *testing.T) {
	s := shireOf(t, usual, oddOnes())
	doesNothing(t, s, api.Choice{Kind: api.DoDeliver})
	for i, to := range []int{5, 6, 6, 13, 7} {
		does(t, s, forge(4, to, "x"+nest.Num(i)), 1)
	}
	doesNothing(t, s, api.Choice{Kind: api.DoDeliver, N: 5}, api.Choice{Kind: api.DoDeliver, N: -1}, api.Choice{Kind: api.DoDeliver, N: math.MinInt}, api.Choice{Kind: api.DoDeliver, N: math.MaxInt})
	for _, c := range []struct{ i, to, rejects int }{{2, 6, 1}, {1, 6, 2}, {2, 7, 1}, {0, 5, 1}, {0, 13, 0}} {
		want := slices.Delete(letters(s), c.i, c.i+1)
		does(t, s, api.Choice{Kind: api.DoDeliver, N: c.i, End: 3}, -1)
		if got := letters(s); len(got)+len(want) > 0 && !reflect.DeepEqual(got, want) {
			t.Errorf("%v wait, not %v", got, want)
		}
		if w := s.Ward(c.to); w != nil && w.Rejects() != c.rejects {
			t.Errorf("end %d: %d rejects", c.to, w.Rejects())
		}
	}
	doesNothing(t, s, api.Choice{Kind: api.DoDeliver})
	s.Step(join(0, 1))
	s.Step(tick(12))
	does(t, s, forge(4, 5, "x"), 1)
	was := letters(s)
	for i := range was { // the primary's, which proposes what is asked
		if was[i].To == 0 {
			s.Step(api.Choice{Kind: api.DoDeliver, N: i})
			break
		}
	}
	got := letters(s)
	if len(got) != len(was)+2 || got[len(was)-2] != was[len(was)-1] {
		t.Fatal("what was sent does not wait behind the others")
	}
	for _, x := range got[len(was)-1:] {
		if x.From != 0 || x.Since != s.Now() {
			t.Errorf("from %d, %d", x.From, x.Since)
		}
	}
}

func TestLoseAndAgain(t *testing.T) {
	s := shireOf(t, usual, oddOnes())
	lose, again := api.Choice{Kind: api.DoLose}, api.Choice{Kind: api.DoAgain}
	doesNothing(t, s, lose, again)
	for i := range 4 {
		does(t, s, forge(4, 5+i, "x"), 1)
	}
	for _, n := range []int{-1, 4, math.MinInt, math.MaxInt} {
		lose.N, again.N = n, n
		doesNothing(t, s, lose, again)
	}
	was := letters(s)
	does(t, s, api.Choice{Kind: api.DoAgain, N: 1}, 1)
	if got := letters(s); !reflect.DeepEqual(got, append(was, was[1])) {
		t.Errorf("%v wait", got)
	}
	does(t, s, api.Choice{Kind: api.DoLose, N: 2}, -1)
	if got := letters(s); !reflect.DeepEqual(got, []bag.Item{was[0], was[1], was[3], was[1]}) {
		t.Errorf("%v wait", got)
	}
	s.Step(round(1))
	for end, want := range map[int]int{5: 1, 6: 2, 7: 0, 8: 1} {
		if n := s.Ward(end).Rejects(); n != want {
			t.Errorf("end %d rejects %d", end, n)
		}
	}
}

// Any text goes from an odd replica to any end, itself too, and from nobody else.
func TestForge(t *testing.T) {
	s := shireOf(t, usual, oddOnes())
	for end := -1; end < 15; end++ {
		for to := -1; to < 15; to++ {
			c := forge(end, to, "text")
			if (end == 1 || end == 4 || end == 11) && to >= 0 && to < 14 {
				does(t, s, c, 1)
				if x, _ := s.letters.See(s.Letters() - 1); x != (bag.Item{From: end, To: to, Since: s.Now(), Text: "text"}) {
					t.Errorf("%v waits", x)
				}
			} else if s.Step(c) {
				t.Errorf("Step(%v)", c)
			}
		}
	}
	s = shireOf(t, usual, oddOnes())
	long := strings.Repeat("x", api.MaxWire+1)
	doesNothing(t, s, forge(0, 1, "x"), forge(5, 4, "x"), forge(12, 4, "x"), forge(14, 4, "x"), forge(math.MinInt, 4, "x"), forge(math.MaxInt, 4, "x"),
		forge(1, -1, "x"), forge(1, 14, "x"), forge(1, math.MinInt, "x"), forge(1, math.MaxInt, "x"), forge(1, 2, long), forge(0, 2, long))
	does(t, s, forge(1, 2, long[:api.MaxWire]), 1)
	does(t, s, forge(11, 13, ""), 1)
	s.Step(round(1))
	if s.Ward(2).Rejects() != 1 || s.Letters() != 0 {
		t.Error("it did not come")
	}
	s = shireOf(t, usual, []int{1, 1, 1})
	doesNothing(t, s, forge(-1, 5, "x"), forge(12, 5, "x"), forge(14, 5, "x"), sign(-1, 5, memo.Memo{Kind: memo.Status}), sign(14, 5, memo.Memo{Kind: memo.Status}))
	s = shireOf(t, small, []int{0, 0, 0})
	for end := range small.Ends() {
		doesNothing(t, s, forge(end, 0, "x"), sign(end, 0, memo.Memo{Kind: memo.Status}))
	}
}

// signable are memos, one at least of each kind; From is whose they are to be.
func signable() []memo.Memo {
	return []memo.Memo{
		{Kind: memo.Ask, Text: "x"},
		{Kind: memo.Order, View: 3, Number: 4, Text: "x"},
		{Kind: memo.Order, Number: api.MaxBig, Text: strings.Repeat("x", api.MaxText/2)},
		{Kind: memo.Settle, View: api.MaxBig, Number: 1},
		{Kind: memo.Mark, Number: 4, Text: "x"},
		{Kind: memo.Change, View: 1, Text: "x"},
		{Kind: memo.Begin, View: 1, Text: "x"},
		{Kind: memo.Stable, Text: "x"},
		{Kind: memo.Status},
		{Kind: memo.Status, View: 3, Number: 1},
		{Kind: memo.Reply, View: 1, Number: 1, Text: "x"},
		{Kind: memo.Config, Text: "x"},
		{Kind: memo.Claim, Text: strings.Repeat("x", api.MaxWire/2)},
		{Kind: memo.Want, Number: 3},
	}
}

func TestSign(t *testing.T) {
	s, ring := shireOf(t, usual, oddOnes()), mustRing(t)
	for _, m := range signable() {
		for _, end := range []int{1, 4, 11} {
			m.From, m.Tag = api.Party{Group: end / 4, No: end % 4}, ""
			does(t, s, sign(end, 13, m), 1)
			want, err := memo.Sign(ring, m)
			if err != api.OK {
				t.Fatal(err)
			}
			x, _ := s.letters.See(s.Letters() - 1)
			if got, err := memo.Decode(x.Text); err != api.OK || got != want || x.From != end || x.To != 13 || x.Since != s.Now() || memo.Verify(ring, got) != api.OK {
				t.Errorf("%v, %v waits, not %v", got, err, want)
			}
		}
	}
	s = shireOf(t, usual, oddOnes())
	for _, m := range signable() {
		doesNothing(t, s, sign(0, 1, m), sign(12, 1, m), sign(-1, 1, m), sign(14, 1, m), sign(4, -1, m), sign(4, 14, m), sign(math.MaxInt, 1, m), sign(4, math.MinInt, m))
		for _, other := range []memo.Memo{
			{Kind: 0, View: m.View, Number: m.Number, Text: m.Text},
			{Kind: memo.Want + 1, View: m.View, Number: m.Number, Text: m.Text},
			{Kind: m.Kind, View: -1, Number: m.Number, Text: m.Text},
			{Kind: m.Kind, View: m.View, Number: -1, Text: m.Text},
			{Kind: m.Kind, View: api.MaxBig + 1, Number: m.Number, Text: m.Text},
			{Kind: m.Kind, View: m.View, Number: math.MaxInt, Text: m.Text},
			{Kind: m.Kind, View: m.View, Number: m.Number, Text: strings.Repeat("x", api.MaxWire/2+1)},
		} {
			doesNothing(t, s, sign(4, 5, other))
		}
	}
	doesNothing(t, s, sign(4, 5, memo.Memo{Kind: memo.Mark, Text: "x"}), sign(4, 5, memo.Memo{Kind: memo.Stable, View: 1, Text: "x"}), sign(4, 5, memo.Memo{Kind: memo.Status, Text: "x"}))
}

func mustRing(t *testing.T) *seal.Ring {
	t.Helper()
	ring, err := seal.New(seed)
	if err != api.OK {
		t.Fatal(err)
	}
	return ring
}

// A round is each end's tick, by its number, and then the letters', the first one first; each of them is a step.
func TestRound(t *testing.T) {
	for _, x := range []roster.Roster{small, usual, {F: 1, Groups: 1, Clients: 2}} {
		odd := make([]int, x.Groups+1)
		for i := range odd {
			odd[i] = x.F
		}
		one, many, all := shireOf(t, x, odd), shireOf(t, x, odd), shireOf(t, x, odd)
		for i := range 12 {
			for _, c := range []api.Choice{join(0, 1+i%x.Groups), put(i%x.Clients, "k", "v"), tick(x.Ends() - 1), forge(0, 1, "x"), {Kind: api.DoDeliver, N: 1}} {
				is := one.Step(c)
				if is != many.Step(c) || is != all.Step(c) {
					t.Fatalf("Step(%v)", c)
				}
			}
			n := 1 + i*i%7
			for range n {
				byHand(t, one)
				if !many.Step(round(1)) {
					t.Error("DoRound 1")
				}
			}
			if !all.Step(api.Choice{Kind: api.DoRound, N: n, End: -1, What: -1}) {
				t.Error("DoRound")
			}
			if want := state(one); !reflect.DeepEqual(state(many), want) || !reflect.DeepEqual(state(all), want) {
				t.Fatalf("%v, %d: rounds do something else than their ticks and letters", x, i)
			}
		}
		if len(one.Points()) == 0 || len(one.Rulings()) == 0 {
			t.Errorf("%v: nothing was done", x)
		}
	}
}

func byHand(t *testing.T, s *Shire) {
	t.Helper()
	for end := range s.roster.Ends() {
		if !s.Step(tick(end)) {
			t.Error("DoTick")
		}
	}
	for s.Letters() > 0 {
		if !s.Step(api.Choice{Kind: api.DoDeliver}) {
			t.Error("DoDeliver")
		}
	}
}

func TestManyRounds(t *testing.T) {
	s, other := shireOf(t, small, []int{0, 0, 0}), shireOf(t, small, []int{0, 0, 0})
	s.Step(tick(4))
	for range 3 {
		s.Step(tick(0))
	}
	doesNothing(t, s, round(0), round(-1), round(51), round(math.MinInt), round(math.MaxInt))
	does(t, s, tick(0), 0) // of group 0 alone a replica of one has nobody to tell its status
	if !other.Step(round(50)) {
		t.Error("DoRound 50")
	}
	fifty := shireOf(t, small, []int{0, 0, 0})
	for range 50 {
		byHand(t, fifty)
	}
	if !reflect.DeepEqual(state(other), state(fifty)) || fifty.Now() < 250 {
		t.Error("50 rounds are not 50")
	}
}

// A choice of no kind is none.
func TestNoKind(t *testing.T) {
	s := shireOf(t, usual, oddOnes())
	s.Step(forge(4, 5, "x"))
	for _, kind := range []int{0, -1, 10, 11, 100, math.MinInt, math.MaxInt} {
		for _, n := range []int{0, 1, 4} {
			doesNothing(t, s, api.Choice{Kind: kind, End: 4, N: n, What: 1, Group: 1, Key: "k", Text: "x"})
		}
	}
}

// What is sent when the bag is full is lost; the choice did something all the same.
func TestFullBag(t *testing.T) {
	s := shireOf(t, usual, oddOnes())
	for range bag.Room - 1 {
		s.Step(forge(4, 5, "x"))
	}
	does(t, s, forge(4, 6, "y"), 1)
	was := letters(s)
	does(t, s, forge(4, 7, "z"), 0)
	does(t, s, sign(4, 7, memo.Memo{Kind: memo.Status}), 0)
	does(t, s, api.Choice{Kind: api.DoAgain, N: bag.Room - 1}, 0)
	for range 4 {
		does(t, s, tick(13), 0)
	}
	if !reflect.DeepEqual(letters(s), was) {
		t.Error("what waits is not what it was")
	}
	does(t, s, api.Choice{Kind: api.DoLose}, -1)
	for range 3 {
		does(t, s, tick(13), 0)
	}
	does(t, s, tick(13), 1) // of four letters the first one has room
	if x, _ := s.letters.See(bag.Room - 1); x.To != 0 || x.From != 13 {
		t.Errorf("%v waits", x)
	}
	if !s.Step(round(1)) || s.Letters() != 0 || s.Ward(6).Rejects() != 1 || s.Ward(7).Rejects() != 0 {
		t.Error("letters did not come")
	}
}

// Example 1.
func TestExample(t *testing.T) {
	s := shireOf(t, roster.Roster{Groups: 2, Clients: 1}, []int{0, 0, 0})
	for _, c := range []api.Choice{join(0, 1), round(10), put(0, "k", "a"), round(10)} {
		if !s.Step(c) {
			t.Errorf("Step(%v)", c)
		}
	}
	l, p := s.Calls(), s.Points()
	if len(l) != 1 || len(p) != 1 || l[0].To <= p[0].At || p[0].At <= l[0].From || l[0].To > s.Now() || s.Caller(0).Open() {
		t.Errorf("%v, %v", l, p)
	}
	if r := s.Rulings(); len(r) != 1 || r[0].Command.Group != 1 {
		t.Errorf("%v", r)
	}
}

// What is kept.

// watch makes choices one by one, and keeps by itself, from what ends show, what a shire is to keep.
type watch struct {
	calls   []proof.Call
	points  []proof.Point
	rulings []Ruling
	done    map[request]struct{}
	logs    []int // of each replica how much of its log was seen
	early   int   // how often an odd replica did something first
	byOdd   map[request]struct{}
}

func newWatch(w *world) *watch {
	return &watch{logs: make([]int, len(w.s.wards)), done: map[request]struct{}{}, byOdd: map[request]struct{}{}}
}

func (k *watch) step(w *world, c api.Choice) {
	var was []bool
	for no := range w.x.Clients {
		was = append(was, w.s.Caller(no).Open())
	}
	is := w.step(c)
	if is && c.Kind == api.DoAsk {
		k.calls = append(k.calls, proof.Call{Client: c.N, Number: w.numberOf(c.N), Op: table.Op{Kind: c.What, Key: c.Key, Value: c.Value, Old: c.Old}, From: w.s.Now(), To: -1})
	}
	for no, open := range was {
		if number, a, _ := w.s.Caller(no).Answer(); open && !w.s.Caller(no).Open() {
			k.answered(no, number, w.s.Now(), a)
		}
	}
	for end, had := range k.logs {
		l := w.s.Ward(end).Peer().Log()
		for _, d := range l[had:] {
			k.did(w, end, d)
		}
		k.logs[end] = len(l)
	}
}

func (k *watch) answered(no, number, now int, a shard.Answer) {
	for i, c := range k.calls {
		if c.Client == no && c.Number == number {
			k.calls[i].To, k.calls[i].Answer = now, a
		}
	}
}

func (k *watch) did(w *world, end int, d peer.Did) {
	o, _, _ := order.Read(d.Text)
	what := request{o.Kind, o.Client, o.Number}
	if _, is := k.done[what]; is || d.Met != stock.Done {
		return
	}
	if slices.Contains(w.odds, end) {
		if _, is := k.byOdd[what]; !is {
			k.early++
		}
		k.byOdd[what] = struct{}{}
		return
	}
	k.done[what] = struct{}{}
	if o.Kind == order.Do {
		k.points = append(k.points, proof.Point{At: w.s.Now(), Client: o.Client, Number: o.Number, Answer: d.Answer})
	} else {
		k.rulings = append(k.rulings, Ruling{Client: o.Client, Number: o.Number, Command: o.Command, Err: d.Answer.Err})
	}
}

func TestKept(t *testing.T) {
	for _, f := range []int{0, 1} {
		calls, points, rulings, early := 0, 0, 0, 0
		for chance := range 6 {
			w := newWorld(t, roster.Roster{F: f, Groups: 2, Clients: 3}, asTold, int64(chance))
			k := newWatch(w)
			k.step(w, join(0, 1))
			for range 6000 {
				k.step(w, w.someSingle())
			}
			if !reflect.DeepEqual(w.s.Calls(), k.calls) || !reflect.DeepEqual(w.s.Points(), k.points) || !reflect.DeepEqual(w.s.Rulings(), k.rulings) {
				t.Errorf("%d: kept are %v, %v, %v, not %v, %v, %v", chance, w.s.Calls(), w.s.Points(), w.s.Rulings(), k.calls, k.points, k.rulings)
			}
			calls, points, rulings, early = calls+len(k.calls), points+len(k.points), rulings+len(k.rulings), early+k.early
			w.isOneMap()
			w.isOneChain()
		}
		if calls < 60 || points < 50 || rulings < 20 || f > 0 && early < 5 {
			t.Errorf("f %d: only %d calls, %d points, %d rulings, %d done by odd ones first", f, calls, points, rulings, early)
		}
	}
}

// A client's number is kept once as an operation, and once as a command: here one that is asked for with the client's own tag, as no caller does.
func TestSameNumber(t *testing.T) {
	s := shireOf(t, usual, oddOnes())
	for _, c := range []api.Choice{join(0, 1), round(12), put(1, "k", "a"), round(12)} {
		s.Step(c)
	}
	want := Ruling{Client: 1, Number: 1, Command: chain.Command{Kind: chain.Join, Group: 2}}
	text, err := order.Text(mustRing(t), order.Order{Kind: order.Rule, Client: 1, Number: 1, Command: want.Command})
	if err != api.OK {
		t.Fatal(err)
	}
	b, err := memo.Encode(memo.Memo{Kind: memo.Ask, From: api.Party{Group: -1, No: 1}, Text: text})
	if err != api.OK {
		t.Fatal(err)
	}
	for range 2 {
		for to := range 4 {
			s.Step(forge(1, to, b))
		}
		s.Step(round(8))
	}
	if l := s.Rulings(); len(l) != 2 || l[1] != want || len(s.Points()) != 1 {
		t.Errorf("%v, %v", l, s.Points())
	}
}

// numberOf is that of a client's last call.
func (w *world) numberOf(no int) int {
	number := 0
	for _, c := range w.s.Calls() {
		if c.Client == no {
			number = c.Number
		}
	}
	return number
}

// someSingle is a choice of one step: most letters come, the older ones sooner.
func (w *world) someSingle() api.Choice {
	switch k := w.rnd.Intn(60); {
	case k == 0:
		return w.someOp(w.rnd.Intn(w.x.Clients))
	case k == 1 && w.rnd.Intn(4) == 0:
		return w.someCommand(w.rnd.Intn(w.x.Clients))
	case k == 2 && w.s.Letters() > 0:
		return api.Choice{Kind: api.DoLose + w.rnd.Intn(2), N: w.rnd.Intn(w.s.Letters())}
	case k < 12 || w.s.Letters() == 0:
		return tick(w.rnd.Intn(w.x.Ends()))
	default:
		return api.Choice{Kind: api.DoDeliver, N: w.rnd.Intn(min(4, w.s.Letters()))}
	}
}

// R3: answers are new, odd is not kept, nor is it changed.
func TestNewMemory(t *testing.T) {
	odd := make([]int, 3, 8)
	copy(odd, oddOnes())
	s := shireOf(t, usual, odd)
	if !slices.Equal(odd[:8], []int{2, 1, 8, 0, 0, 0, 0, 0}) {
		t.Error("odd is changed")
	}
	clear(odd)
	does(t, s, forge(1, 0, "x"), 1)
	for _, c := range []api.Choice{join(0, 1), round(12), put(0, "k", "a"), put(1, "l", "b"), round(12), get(1, "k")} {
		s.Step(c)
	}
	calls, points, rulings := s.Calls(), s.Points(), s.Rulings()
	was := state(s)
	for _, l := range [][]proof.Call{calls, append(calls, proof.Call{})} {
		l[0], l[len(l)-1] = proof.Call{Client: 5}, proof.Call{Client: 5}
	}
	for _, l := range [][]proof.Point{points, append(points, proof.Point{})} {
		l[0], l[len(l)-1] = proof.Point{At: 5}, proof.Point{At: 5}
	}
	for _, l := range [][]Ruling{rulings, append(rulings, Ruling{})} {
		l[0], l[len(l)-1] = Ruling{Client: 5}, Ruling{Client: 5}
	}
	if !reflect.DeepEqual(state(s), was) || len(points) != 2 || len(rulings) != 1 {
		t.Error("answers are not new memory")
	}
	for i, c := range []api.Choice{round(1), put(0, "k", "c"), round(10)} {
		if !s.Step(c) {
			t.Errorf("%d: Step", i)
		}
	}
	if l := s.Calls(); len(l) != 4 || l[0].Client != 0 || l[3].To < 0 {
		t.Errorf("%v", l)
	}
}
